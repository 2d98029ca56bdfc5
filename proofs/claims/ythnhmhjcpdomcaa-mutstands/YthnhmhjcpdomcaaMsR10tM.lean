import Derived.Test.YthnhmhjcpdomcaaMuSetM
import Derived.Test.YthnhmhjcpdomcaaMuThat
import Derived.Deep.Cut
import Derived.Deep.DeepCutAuto
section
/- Regions 9 and 10 of MutStands: a truth is put into a map. -/
namespace Go.Proofs.Ythnhmhjcpdomcaa
open Go.RowKit
set_option maxRecDepth 100000 in
set_option maxHeartbeats 4000000 in
theorem stands_r9t {W0 : World} {A : Act} {b off n cap j mb mn : Nat} {x : Int} {f : Int → Bool} {K : Act → World → Prop} {Q' : Exit → Act → World → Prop} (hsz : A.tmps.size = 229) (hA1 : A.eval (.tmp 1) = .slice (some ⟨b, off, none⟩) n cap) (hA7 : A.eval (.tmp 7) = .int .i64 j) (hAm : A.eval (.tmp 5) = .map (some mb)) (hj : j < n) (hi : W0.cell? ⟨b, off + j * 4 + 1, none⟩ = some (.int .i64 x)) (hx : I64 x) (hM : BMap W0 mb mn f) (hmn : mn < maxLen) (hf : f x = true)
    (HK : ∀ X W, Fr W0 W (fun i => i = mb) → BMap W mb (mn + 1) (fun y => if y = x then true else f y) → K (puts A X [51, 52, 53, 54, 55, 56, 57, 58, 59, 60, 61, 62, 63, 64, 65, 66, 67, 68, 69, 70, 71]) W) :
    Code.wp Try.prog ((Try.f8.body.bind (regionJ 9)).getD .skip) (Exit.then K Q') A W0 := by
  obtain ⟨ds, hds⟩ : ∃ ds, [51, 52, 53, 54, 55, 56, 57, 58, 59, 60, 61, 62, 63, 64, 65, 66, 67, 68, 69, 70, 71] = ds := ⟨_, rfl⟩
  have hlt : ∀ d ∈ [51, 52, 53, 54, 55, 56, 57, 58, 59, 60, 61, 62, 63, 64, 65, 66, 67, 68, 69, 70, 71], d < A.tmps.size := by rw [hsz]; decide
  have hin : ∀ {X : Nat → Value} {k : Nat}, k ∈ [51, 52, 53, 54, 55, 56, 57, 58, 59, 60, 61, 62, 63, 64, 65, 66, 67, 68, 69, 70, 71] → (puts A X ds).eval (.tmp k) = X k := fun hk => by rw [← hds]; exact eval_in hk (hlt _ hk)
  have hout : ∀ {X : Nat → Value} {k : Nat}, k ∉ [51, 52, 53, 54, 55, 56, 57, 58, 59, 60, 61, 62, 63, 64, 65, 66, 67, 68, 69, 70, 71] → (puts A X ds).eval (.tmp k) = A.eval (.tmp k) := fun hk => by rw [← hds]; exact eval_out hk
  have g0 : ds.getD 0 0 = 51 := by rw [← hds]; rfl
  have g1 : ds.getD 1 0 = 52 := by rw [← hds]; rfl
  have g2 : ds.getD 2 0 = 53 := by rw [← hds]; rfl
  have g3 : ds.getD 3 0 = 54 := by rw [← hds]; rfl
  have g4 : ds.getD 4 0 = 55 := by rw [← hds]; rfl
  have g5 : ds.getD 5 0 = 56 := by rw [← hds]; rfl
  have g6 : ds.getD 6 0 = 57 := by rw [← hds]; rfl
  have g7 : ds.getD 7 0 = 58 := by rw [← hds]; rfl
  have g8 : ds.getD 8 0 = 59 := by rw [← hds]; rfl
  have g9 : ds.getD 9 0 = 60 := by rw [← hds]; rfl
  have g10 : ds.getD 10 0 = 61 := by rw [← hds]; rfl
  have g11 : ds.getD 11 0 = 62 := by rw [← hds]; rfl
  have g12 : ds.getD 12 0 = 63 := by rw [← hds]; rfl
  have g13 : ds.getD 13 0 = 64 := by rw [← hds]; rfl
  have g14 : ds.getD 14 0 = 65 := by rw [← hds]; rfl
  have g15 : ds.getD 15 0 = 66 := by rw [← hds]; rfl
  have g16 : ds.getD 16 0 = 67 := by rw [← hds]; rfl
  have g17 : ds.getD 17 0 = 68 := by rw [← hds]; rfl
  have g18 : ds.getD 18 0 = 69 := by rw [← hds]; rfl
  have g19 : ds.getD 19 0 = 70 := by rw [← hds]; rfl
  have g20 : ds.getD 20 0 = 71 := by rw [← hds]; rfl
  obtain ⟨gb, hgbE⟩ : ∃ gb : Nat → Bool, (fun j => if j = 13 then true else true) = gb := ⟨_, rfl⟩
  have gb13 : gb 13 = true := by rw [← hgbE]; rfl
  obtain ⟨V, hV, e0, e1, e2, e3, e4, e5, e6, e7, e8, e9, e10, e11, e12, e13, e14, e15, e16, e17, e18, e19, e20⟩ : ∃ V : Nat → Value → World → Prop, (∀ i v W W', V i v W → Below W.heap.size W W' → V i v W') ∧ (∀ v W, V 0 v W = (v = .map (some mb))) ∧ (∀ v W, V 1 v W = (v = .slice (some ⟨b, off, none⟩) n cap)) ∧ (∀ v W, V 2 v W = (v = .int .i64 j)) ∧ (∀ v W, V 3 v W = (v = .pointer (some ⟨b, off + j * 4, none⟩))) ∧ (∀ v W, V 4 v W = (v = .pointer (some ⟨b, off + j * 4 + 1, none⟩))) ∧ (∀ v W, V 5 v W = (v = .int .i64 x)) ∧ (∀ v W, V 6 v W = (v = .map (some mb))) ∧ (∀ v W, V 7 v W = (v = .slice (some ⟨b, off, none⟩) n cap)) ∧ (∀ v W, V 8 v W = (v = .int .i64 j)) ∧ (∀ v W, V 9 v W = (v = .pointer (some ⟨b, off + j * 4, none⟩))) ∧ (∀ v W, V 10 v W = (v = .pointer (some ⟨b, off + j * 4 + 1, none⟩))) ∧ (∀ v W, V 11 v W = (v = .int .i64 x)) ∧ (∀ v W, V 12 v W = (v = .bool true)) ∧ (∀ v W, V 13 v W = (v = .bool true)) ∧ (∀ v W, V 14 v W = (True)) ∧ (∀ v W, V 15 v W = (True)) ∧ (∀ v W, V 16 v W = (True)) ∧ (∀ v W, V 17 v W = (True)) ∧ (∀ v W, V 18 v W = (True)) ∧ (∀ v W, V 19 v W = (True)) ∧ (∀ v W, V 20 v W = (v = .bool true)) := by
    refine ⟨fun i v W => match i with
      | 0 => v = .map (some mb)
      | 1 => v = .slice (some ⟨b, off, none⟩) n cap
      | 2 => v = .int .i64 j
      | 3 => v = .pointer (some ⟨b, off + j * 4, none⟩)
      | 4 => v = .pointer (some ⟨b, off + j * 4 + 1, none⟩)
      | 5 => v = .int .i64 x
      | 6 => v = .map (some mb)
      | 7 => v = .slice (some ⟨b, off, none⟩) n cap
      | 8 => v = .int .i64 j
      | 9 => v = .pointer (some ⟨b, off + j * 4, none⟩)
      | 10 => v = .pointer (some ⟨b, off + j * 4 + 1, none⟩)
      | 11 => v = .int .i64 x
      | 12 => v = .bool true
      | 13 => v = .bool true
      | 14 => True
      | 15 => True
      | 16 => True
      | 17 => True
      | 18 => True
      | 19 => True
      | 20 => v = .bool true
      | _ => True, ?_, fun _ _ => rfl, fun _ _ => rfl, fun _ _ => rfl, fun _ _ => rfl, fun _ _ => rfl, fun _ _ => rfl, fun _ _ => rfl, fun _ _ => rfl, fun _ _ => rfl, fun _ _ => rfl, fun _ _ => rfl, fun _ _ => rfl, fun _ _ => rfl, fun _ _ => rfl, fun _ _ => rfl, fun _ _ => rfl, fun _ _ => rfl, fun _ _ => rfl, fun _ _ => rfl, fun _ _ => rfl, fun _ _ => rfl⟩
    intro i v W W' h hb
    match i, h with
    | 0, h => exact h
    | 1, h => exact h
    | 2, h => exact h
    | 3, h => exact h
    | 4, h => exact h
    | 5, h => exact h
    | 6, h => exact h
    | 7, h => exact h
    | 8, h => exact h
    | 9, h => exact h
    | 10, h => exact h
    | 11, h => exact h
    | 12, h => exact h
    | 13, h => exact h
    | 14, h => exact h
    | 15, h => exact h
    | 16, h => exact h
    | 17, h => exact h
    | 18, h => exact h
    | 19, h => exact h
    | 20, h => exact h
    | _ + 21, _ => trivial
  conv => arg 2; whnf
  refine wp_region_M 21 rfl ds V gb (by kernel_rfl) (by kernel_rfl) (by kernel_rfl) (by rw [← hds]; kernel_rfl) (by rw [← hds]; exact hlt) hV ?_ ?_ ?_
  · intro i o j want ho hg v W hv
    have hj : j ∈ [13] := guards_at (by kernel_rfl) ho hg
    simp only [List.mem_cons, List.not_mem_nil, or_false] at hj
    rcases hj with rfl
    · rw [gb13]; rw [e13] at hv; exact hv
  · refine ⟨?_, ?_, ?_, ?_, ?_, ?_, ?_, ?_, ?_, ?_, ?_, ?_, ?_, ?_, ?_, ?_, ?_, ?_, ?_, ?_, ?_, trivial⟩
    · refine ⟨fun _ X W hb hd hu => ?_, fun h => absurd (show true = false from h) (by decide)⟩
      have h0 := hout (X := X) (k := 5) (by decide)
      rw [hAm] at h0
      refine v_value (V := V 0) (v := .map (some mb)) ?_ (by rw [e0])
      generalize (puts A X ds).eval = ρ at h0 ⊢
      go_simp
    · refine ⟨fun _ X W hb hd hu => ?_, fun h => absurd (show true = false from h) (by decide)⟩
      have h0 := hout (X := X) (k := 1) (by decide)
      rw [hA1] at h0
      refine v_value (V := V 1) (v := .slice (some ⟨b, off, none⟩) n cap) ?_ (by rw [e1])
      generalize (puts A X ds).eval = ρ at h0 ⊢
      go_simp
    · refine ⟨fun _ X W hb hd hu => ?_, fun h => absurd (show true = false from h) (by decide)⟩
      have h0 := hout (X := X) (k := 7) (by decide)
      rw [hA7] at h0
      refine v_value (V := V 2) (v := .int .i64 j) ?_ (by rw [e2])
      generalize (puts A X ds).eval = ρ at h0 ⊢
      go_simp
    · refine ⟨fun _ X W hb hd hu => ?_, fun h => absurd (show true = false from h) (by decide)⟩
      have d0 := hd 1 (by kernel_rfl)
      rw [e1, g1] at d0
      have h0 := (hin (X := X) (k := 52) (by decide)).trans d0
      have d1 := hd 2 (by kernel_rfl)
      rw [e2, g2] at d1
      have h1 := (hin (X := X) (k := 53) (by decide)).trans d1
      have hj1 : (0:Int) ≤ j := by omega
      have hj2 : (j : Int) < n := by omega
      refine v_value (V := V 3) (v := .pointer (some ⟨b, off + j * 4, none⟩)) ?_ (by rw [e3])
      generalize (puts A X ds).eval = ρ at h0 h1 ⊢
      go_simp
    · refine ⟨fun _ X W hb hd hu => ?_, fun h => absurd (show true = false from h) (by decide)⟩
      have d0 := hd 3 (by kernel_rfl)
      rw [e3, g3] at d0
      have h0 := (hin (X := X) (k := 54) (by decide)).trans d0
      refine v_value (V := V 4) (v := .pointer (some ⟨b, off + j * 4 + 1, none⟩)) ?_ (by rw [e4])
      generalize (puts A X ds).eval = ρ at h0 ⊢
      go_simp
    · refine ⟨fun _ X W hb hd hu => ?_, fun h => absurd (show true = false from h) (by decide)⟩
      have d0 := hd 4 (by kernel_rfl)
      rw [e4, g4] at d0
      have h0 := (hin (X := X) (k := 55) (by decide)).trans d0
      have c0 := (hb.cell (p := ⟨b, off + j * 4 + 1, none⟩) (lt_cell hi)).trans hi
      refine v_value (V := V 5) (v := .int .i64 x) ?_ (by rw [e5])
      generalize (puts A X ds).eval = ρ at h0 ⊢
      go_simp
    · refine ⟨fun _ X W hb hd hu => ?_, fun h => absurd (show true = false from h) (by decide)⟩
      have h0 := hout (X := X) (k := 5) (by decide)
      rw [hAm] at h0
      refine v_value (V := V 6) (v := .map (some mb)) ?_ (by rw [e6])
      generalize (puts A X ds).eval = ρ at h0 ⊢
      go_simp
    · refine ⟨fun _ X W hb hd hu => ?_, fun h => absurd (show true = false from h) (by decide)⟩
      have h0 := hout (X := X) (k := 1) (by decide)
      rw [hA1] at h0
      refine v_value (V := V 7) (v := .slice (some ⟨b, off, none⟩) n cap) ?_ (by rw [e7])
      generalize (puts A X ds).eval = ρ at h0 ⊢
      go_simp
    · refine ⟨fun _ X W hb hd hu => ?_, fun h => absurd (show true = false from h) (by decide)⟩
      have h0 := hout (X := X) (k := 7) (by decide)
      rw [hA7] at h0
      refine v_value (V := V 8) (v := .int .i64 j) ?_ (by rw [e8])
      generalize (puts A X ds).eval = ρ at h0 ⊢
      go_simp
    · refine ⟨fun _ X W hb hd hu => ?_, fun h => absurd (show true = false from h) (by decide)⟩
      have d0 := hd 7 (by kernel_rfl)
      rw [e7, g7] at d0
      have h0 := (hin (X := X) (k := 58) (by decide)).trans d0
      have d1 := hd 8 (by kernel_rfl)
      rw [e8, g8] at d1
      have h1 := (hin (X := X) (k := 59) (by decide)).trans d1
      have hj1 : (0:Int) ≤ j := by omega
      have hj2 : (j : Int) < n := by omega
      refine v_value (V := V 9) (v := .pointer (some ⟨b, off + j * 4, none⟩)) ?_ (by rw [e9])
      generalize (puts A X ds).eval = ρ at h0 h1 ⊢
      go_simp
    · refine ⟨fun _ X W hb hd hu => ?_, fun h => absurd (show true = false from h) (by decide)⟩
      have d0 := hd 9 (by kernel_rfl)
      rw [e9, g9] at d0
      have h0 := (hin (X := X) (k := 60) (by decide)).trans d0
      refine v_value (V := V 10) (v := .pointer (some ⟨b, off + j * 4 + 1, none⟩)) ?_ (by rw [e10])
      generalize (puts A X ds).eval = ρ at h0 ⊢
      go_simp
    · refine ⟨fun _ X W hb hd hu => ?_, fun h => absurd (show true = false from h) (by decide)⟩
      have d0 := hd 10 (by kernel_rfl)
      rw [e10, g10] at d0
      have h0 := (hin (X := X) (k := 61) (by decide)).trans d0
      have c0 := (hb.cell (p := ⟨b, off + j * 4 + 1, none⟩) (lt_cell hi)).trans hi
      refine v_value (V := V 11) (v := .int .i64 x) ?_ (by rw [e11])
      generalize (puts A X ds).eval = ρ at h0 ⊢
      go_simp
    · refine ⟨fun _ X W hb hd hu => ?_, fun h => absurd (show true = false from h) (by decide)⟩
      have d0 := hd 6 (by kernel_rfl)
      rw [e6, g6] at d0
      have h0 := (hin (X := X) (k := 57) (by decide)).trans d0
      have d1 := hd 11 (by kernel_rfl)
      rw [e11, g11] at d1
      have h1 := (hin (X := X) (k := 62) (by decide)).trans d1
      have c0 := (hM.new hb).look hx
      rw [hf] at c0
      refine v_value (V := V 12) (v := .bool true) ?_ (by rw [e12])
      generalize (puts A X ds).eval = ρ at h0 h1 ⊢
      go_simp
    · refine ⟨fun _ X W hb hd hu => ?_, fun h => absurd (show true = false from h) (by decide)⟩
      have d0 := hd 12 (by kernel_rfl)
      rw [e12, g12] at d0
      have h0 := (hin (X := X) (k := 63) (by decide)).trans d0
      refine v_value (V := V 13) (v := .bool true) ?_ (by rw [e13])
      generalize (puts A X ds).eval = ρ at h0 ⊢
      go_simp
    · refine ⟨fun h => (by have h' : (gb 13 == false) = true := h; rw [gb13] at h'; cases h'), fun _ W => (by rw [e14]; trivial)⟩
    · refine ⟨fun h => (by have h' : (gb 13 == false) = true := h; rw [gb13] at h'; cases h'), fun _ W => (by rw [e15]; trivial)⟩
    · refine ⟨fun h => (by have h' : (gb 13 == false) = true := h; rw [gb13] at h'; cases h'), fun _ W => (by rw [e16]; trivial)⟩
    · refine ⟨fun h => (by have h' : (gb 13 == false) = true := h; rw [gb13] at h'; cases h'), fun _ W => (by rw [e17]; trivial)⟩
    · refine ⟨fun h => (by have h' : (gb 13 == false) = true := h; rw [gb13] at h'; cases h'), fun _ W => (by rw [e18]; trivial)⟩
    · refine ⟨fun h => (by have h' : (gb 13 == false) = true := h; rw [gb13] at h'; cases h'), fun _ W => (by rw [e19]; trivial)⟩
    · refine ⟨fun _ X W hb hd hu => ?_, fun h => absurd (show true = false from h) (by decide)⟩
      have d0 := hd 13 (by kernel_rfl)
      rw [e13, g13] at d0
      have h0 := (hin (X := X) (k := 64) (by decide)).trans d0
      have h1 : (puts A X ds).eval (.const (.bool true)) = .bool true := rfl
      refine v_value (V := V 20) (v := .bool true) ?_ (by rw [e20])
      generalize (puts A X ds).eval = ρ at h0 h1 ⊢
      go_simp
  · intro X W hb hall
    have r0 := hall 0 (by decide)
    rw [e0, g0] at r0
    have r5 := hall 5 (by decide)
    rw [e5, g5] at r5
    have r20 := hall 20 (by decide)
    rw [e20, g20] at r20
    have h0 := (hin (X := X) (k := 51) (by decide)).trans r0
    have h5 := (hin (X := X) (k := 56) (by decide)).trans r5
    have h20 := (hin (X := X) (k := 71) (by decide)).trans r20
    obtain ⟨W', hrun, hM', hfr⟩ := (hM.new hb).put hmn hx true
    refine op_skip (w' := W') ?_ ?_
    · generalize (puts A X ds).eval = ρ at h0 h5 h20 ⊢
      go_simp
    · have := HK X W' ((Fr.ofBelow hb _).trans hfr (fun _ _ h => h)) hM'
      rw [hds] at this
      exact this
end Go.Proofs.Ythnhmhjcpdomcaa
end

section
/- Regions 9 and 10 of MutStands: a truth is put into a map. -/
namespace Go.Proofs.Ythnhmhjcpdomcaa
open Go.RowKit
set_option maxRecDepth 100000 in
set_option maxHeartbeats 4000000 in
theorem stands_r9f {W0 : World} {A : Act} {b off n cap j mb mn : Nat} {x k : Int} {f : Int → Bool} {K : Act → World → Prop} {Q' : Exit → Act → World → Prop} (hsz : A.tmps.size = 229) (hA1 : A.eval (.tmp 1) = .slice (some ⟨b, off, none⟩) n cap) (hA7 : A.eval (.tmp 7) = .int .i64 j) (hAm : A.eval (.tmp 5) = .map (some mb)) (hj : j < n) (hi : W0.cell? ⟨b, off + j * 4 + 1, none⟩ = some (.int .i64 x)) (hk : W0.cell? ⟨b, off + j * 4, none⟩ = some (.int .i64 k)) (hx : I64 x) (hM : BMap W0 mb mn f) (hmn : mn < maxLen) (hf : f x = false)
    (HK : ∀ X W, Fr W0 W (fun i => i = mb) → BMap W mb (mn + 1) (fun y => if y = x then (k == 2) else f y) → K (puts A X [51, 52, 53, 54, 55, 56, 57, 58, 59, 60, 61, 62, 63, 64, 65, 66, 67, 68, 69, 70, 71]) W) :
    Code.wp Try.prog ((Try.f8.body.bind (regionJ 9)).getD .skip) (Exit.then K Q') A W0 := by
  obtain ⟨ds, hds⟩ : ∃ ds, [51, 52, 53, 54, 55, 56, 57, 58, 59, 60, 61, 62, 63, 64, 65, 66, 67, 68, 69, 70, 71] = ds := ⟨_, rfl⟩
  have hlt : ∀ d ∈ [51, 52, 53, 54, 55, 56, 57, 58, 59, 60, 61, 62, 63, 64, 65, 66, 67, 68, 69, 70, 71], d < A.tmps.size := by rw [hsz]; decide
  have hin : ∀ {X : Nat → Value} {k : Nat}, k ∈ [51, 52, 53, 54, 55, 56, 57, 58, 59, 60, 61, 62, 63, 64, 65, 66, 67, 68, 69, 70, 71] → (puts A X ds).eval (.tmp k) = X k := fun hk => by rw [← hds]; exact eval_in hk (hlt _ hk)
  have hout : ∀ {X : Nat → Value} {k : Nat}, k ∉ [51, 52, 53, 54, 55, 56, 57, 58, 59, 60, 61, 62, 63, 64, 65, 66, 67, 68, 69, 70, 71] → (puts A X ds).eval (.tmp k) = A.eval (.tmp k) := fun hk => by rw [← hds]; exact eval_out hk
  have g0 : ds.getD 0 0 = 51 := by rw [← hds]; rfl
  have g1 : ds.getD 1 0 = 52 := by rw [← hds]; rfl
  have g2 : ds.getD 2 0 = 53 := by rw [← hds]; rfl
  have g3 : ds.getD 3 0 = 54 := by rw [← hds]; rfl
  have g4 : ds.getD 4 0 = 55 := by rw [← hds]; rfl
  have g5 : ds.getD 5 0 = 56 := by rw [← hds]; rfl
  have g6 : ds.getD 6 0 = 57 := by rw [← hds]; rfl
  have g7 : ds.getD 7 0 = 58 := by rw [← hds]; rfl
  have g8 : ds.getD 8 0 = 59 := by rw [← hds]; rfl
  have g9 : ds.getD 9 0 = 60 := by rw [← hds]; rfl
  have g10 : ds.getD 10 0 = 61 := by rw [← hds]; rfl
  have g11 : ds.getD 11 0 = 62 := by rw [← hds]; rfl
  have g12 : ds.getD 12 0 = 63 := by rw [← hds]; rfl
  have g13 : ds.getD 13 0 = 64 := by rw [← hds]; rfl
  have g14 : ds.getD 14 0 = 65 := by rw [← hds]; rfl
  have g15 : ds.getD 15 0 = 66 := by rw [← hds]; rfl
  have g16 : ds.getD 16 0 = 67 := by rw [← hds]; rfl
  have g17 : ds.getD 17 0 = 68 := by rw [← hds]; rfl
  have g18 : ds.getD 18 0 = 69 := by rw [← hds]; rfl
  have g19 : ds.getD 19 0 = 70 := by rw [← hds]; rfl
  have g20 : ds.getD 20 0 = 71 := by rw [← hds]; rfl
  obtain ⟨gb, hgbE⟩ : ∃ gb : Nat → Bool, (fun j => if j = 13 then false else true) = gb := ⟨_, rfl⟩
  have gb13 : gb 13 = false := by rw [← hgbE]; rfl
  obtain ⟨V, hV, e0, e1, e2, e3, e4, e5, e6, e7, e8, e9, e10, e11, e12, e13, e14, e15, e16, e17, e18, e19, e20⟩ : ∃ V : Nat → Value → World → Prop, (∀ i v W W', V i v W → Below W.heap.size W W' → V i v W') ∧ (∀ v W, V 0 v W = (v = .map (some mb))) ∧ (∀ v W, V 1 v W = (v = .slice (some ⟨b, off, none⟩) n cap)) ∧ (∀ v W, V 2 v W = (v = .int .i64 j)) ∧ (∀ v W, V 3 v W = (v = .pointer (some ⟨b, off + j * 4, none⟩))) ∧ (∀ v W, V 4 v W = (v = .pointer (some ⟨b, off + j * 4 + 1, none⟩))) ∧ (∀ v W, V 5 v W = (v = .int .i64 x)) ∧ (∀ v W, V 6 v W = (v = .map (some mb))) ∧ (∀ v W, V 7 v W = (v = .slice (some ⟨b, off, none⟩) n cap)) ∧ (∀ v W, V 8 v W = (v = .int .i64 j)) ∧ (∀ v W, V 9 v W = (v = .pointer (some ⟨b, off + j * 4, none⟩))) ∧ (∀ v W, V 10 v W = (v = .pointer (some ⟨b, off + j * 4 + 1, none⟩))) ∧ (∀ v W, V 11 v W = (v = .int .i64 x)) ∧ (∀ v W, V 12 v W = (v = .bool false)) ∧ (∀ v W, V 13 v W = (v = .bool false)) ∧ (∀ v W, V 14 v W = (v = .slice (some ⟨b, off, none⟩) n cap)) ∧ (∀ v W, V 15 v W = (v = .int .i64 j)) ∧ (∀ v W, V 16 v W = (v = .pointer (some ⟨b, off + j * 4, none⟩))) ∧ (∀ v W, V 17 v W = (v = .pointer (some ⟨b, off + j * 4, none⟩))) ∧ (∀ v W, V 18 v W = (v = .int .i64 k)) ∧ (∀ v W, V 19 v W = (v = .bool (k == 2))) ∧ (∀ v W, V 20 v W = (v = .bool (k == 2))) := by
    refine ⟨fun i v W => match i with
      | 0 => v = .map (some mb)
      | 1 => v = .slice (some ⟨b, off, none⟩) n cap
      | 2 => v = .int .i64 j
      | 3 => v = .pointer (some ⟨b, off + j * 4, none⟩)
      | 4 => v = .pointer (some ⟨b, off + j * 4 + 1, none⟩)
      | 5 => v = .int .i64 x
      | 6 => v = .map (some mb)
      | 7 => v = .slice (some ⟨b, off, none⟩) n cap
      | 8 => v = .int .i64 j
      | 9 => v = .pointer (some ⟨b, off + j * 4, none⟩)
      | 10 => v = .pointer (some ⟨b, off + j * 4 + 1, none⟩)
      | 11 => v = .int .i64 x
      | 12 => v = .bool false
      | 13 => v = .bool false
      | 14 => v = .slice (some ⟨b, off, none⟩) n cap
      | 15 => v = .int .i64 j
      | 16 => v = .pointer (some ⟨b, off + j * 4, none⟩)
      | 17 => v = .pointer (some ⟨b, off + j * 4, none⟩)
      | 18 => v = .int .i64 k
      | 19 => v = .bool (k == 2)
      | 20 => v = .bool (k == 2)
      | _ => True, ?_, fun _ _ => rfl, fun _ _ => rfl, fun _ _ => rfl, fun _ _ => rfl, fun _ _ => rfl, fun _ _ => rfl, fun _ _ => rfl, fun _ _ => rfl, fun _ _ => rfl, fun _ _ => rfl, fun _ _ => rfl, fun _ _ => rfl, fun _ _ => rfl, fun _ _ => rfl, fun _ _ => rfl, fun _ _ => rfl, fun _ _ => rfl, fun _ _ => rfl, fun _ _ => rfl, fun _ _ => rfl, fun _ _ => rfl⟩
    intro i v W W' h hb
    match i, h with
    | 0, h => exact h
    | 1, h => exact h
    | 2, h => exact h
    | 3, h => exact h
    | 4, h => exact h
    | 5, h => exact h
    | 6, h => exact h
    | 7, h => exact h
    | 8, h => exact h
    | 9, h => exact h
    | 10, h => exact h
    | 11, h => exact h
    | 12, h => exact h
    | 13, h => exact h
    | 14, h => exact h
    | 15, h => exact h
    | 16, h => exact h
    | 17, h => exact h
    | 18, h => exact h
    | 19, h => exact h
    | 20, h => exact h
    | _ + 21, _ => trivial
  conv => arg 2; whnf
  refine wp_region_M 21 rfl ds V gb (by kernel_rfl) (by kernel_rfl) (by kernel_rfl) (by rw [← hds]; kernel_rfl) (by rw [← hds]; exact hlt) hV ?_ ?_ ?_
  · intro i o j want ho hg v W hv
    have hj : j ∈ [13] := guards_at (by kernel_rfl) ho hg
    simp only [List.mem_cons, List.not_mem_nil, or_false] at hj
    rcases hj with rfl
    · rw [gb13]; rw [e13] at hv; exact hv
  · refine ⟨?_, ?_, ?_, ?_, ?_, ?_, ?_, ?_, ?_, ?_, ?_, ?_, ?_, ?_, ?_, ?_, ?_, ?_, ?_, ?_, ?_, trivial⟩
    · refine ⟨fun _ X W hb hd hu => ?_, fun h => absurd (show true = false from h) (by decide)⟩
      have h0 := hout (X := X) (k := 5) (by decide)
      rw [hAm] at h0
      refine v_value (V := V 0) (v := .map (some mb)) ?_ (by rw [e0])
      generalize (puts A X ds).eval = ρ at h0 ⊢
      go_simp
    · refine ⟨fun _ X W hb hd hu => ?_, fun h => absurd (show true = false from h) (by decide)⟩
      have h0 := hout (X := X) (k := 1) (by decide)
      rw [hA1] at h0
      refine v_value (V := V 1) (v := .slice (some ⟨b, off, none⟩) n cap) ?_ (by rw [e1])
      generalize (puts A X ds).eval = ρ at h0 ⊢
      go_simp
    · refine ⟨fun _ X W hb hd hu => ?_, fun h => absurd (show true = false from h) (by decide)⟩
      have h0 := hout (X := X) (k := 7) (by decide)
      rw [hA7] at h0
      refine v_value (V := V 2) (v := .int .i64 j) ?_ (by rw [e2])
      generalize (puts A X ds).eval = ρ at h0 ⊢
      go_simp
    · refine ⟨fun _ X W hb hd hu => ?_, fun h => absurd (show true = false from h) (by decide)⟩
      have d0 := hd 1 (by kernel_rfl)
      rw [e1, g1] at d0
      have h0 := (hin (X := X) (k := 52) (by decide)).trans d0
      have d1 := hd 2 (by kernel_rfl)
      rw [e2, g2] at d1
      have h1 := (hin (X := X) (k := 53) (by decide)).trans d1
      have hj1 : (0:Int) ≤ j := by omega
      have hj2 : (j : Int) < n := by omega
      refine v_value (V := V 3) (v := .pointer (some ⟨b, off + j * 4, none⟩)) ?_ (by rw [e3])
      generalize (puts A X ds).eval = ρ at h0 h1 ⊢
      go_simp
    · refine ⟨fun _ X W hb hd hu => ?_, fun h => absurd (show true = false from h) (by decide)⟩
      have d0 := hd 3 (by kernel_rfl)
      rw [e3, g3] at d0
      have h0 := (hin (X := X) (k := 54) (by decide)).trans d0
      refine v_value (V := V 4) (v := .pointer (some ⟨b, off + j * 4 + 1, none⟩)) ?_ (by rw [e4])
      generalize (puts A X ds).eval = ρ at h0 ⊢
      go_simp
    · refine ⟨fun _ X W hb hd hu => ?_, fun h => absurd (show true = false from h) (by decide)⟩
      have d0 := hd 4 (by kernel_rfl)
      rw [e4, g4] at d0
      have h0 := (hin (X := X) (k := 55) (by decide)).trans d0
      have c0 := (hb.cell (p := ⟨b, off + j * 4 + 1, none⟩) (lt_cell hi)).trans hi
      refine v_value (V := V 5) (v := .int .i64 x) ?_ (by rw [e5])
      generalize (puts A X ds).eval = ρ at h0 ⊢
      go_simp
    · refine ⟨fun _ X W hb hd hu => ?_, fun h => absurd (show true = false from h) (by decide)⟩
      have h0 := hout (X := X) (k := 5) (by decide)
      rw [hAm] at h0
      refine v_value (V := V 6) (v := .map (some mb)) ?_ (by rw [e6])
      generalize (puts A X ds).eval = ρ at h0 ⊢
      go_simp
    · refine ⟨fun _ X W hb hd hu => ?_, fun h => absurd (show true = false from h) (by decide)⟩
      have h0 := hout (X := X) (k := 1) (by decide)
      rw [hA1] at h0
      refine v_value (V := V 7) (v := .slice (some ⟨b, off, none⟩) n cap) ?_ (by rw [e7])
      generalize (puts A X ds).eval = ρ at h0 ⊢
      go_simp
    · refine ⟨fun _ X W hb hd hu => ?_, fun h => absurd (show true = false from h) (by decide)⟩
      have h0 := hout (X := X) (k := 7) (by decide)
      rw [hA7] at h0
      refine v_value (V := V 8) (v := .int .i64 j) ?_ (by rw [e8])
      generalize (puts A X ds).eval = ρ at h0 ⊢
      go_simp
    · refine ⟨fun _ X W hb hd hu => ?_, fun h => absurd (show true = false from h) (by decide)⟩
      have d0 := hd 7 (by kernel_rfl)
      rw [e7, g7] at d0
      have h0 := (hin (X := X) (k := 58) (by decide)).trans d0
      have d1 := hd 8 (by kernel_rfl)
      rw [e8, g8] at d1
      have h1 := (hin (X := X) (k := 59) (by decide)).trans d1
      have hj1 : (0:Int) ≤ j := by omega
      have hj2 : (j : Int) < n := by omega
      refine v_value (V := V 9) (v := .pointer (some ⟨b, off + j * 4, none⟩)) ?_ (by rw [e9])
      generalize (puts A X ds).eval = ρ at h0 h1 ⊢
      go_simp
    · refine ⟨fun _ X W hb hd hu => ?_, fun h => absurd (show true = false from h) (by decide)⟩
      have d0 := hd 9 (by kernel_rfl)
      rw [e9, g9] at d0
      have h0 := (hin (X := X) (k := 60) (by decide)).trans d0
      refine v_value (V := V 10) (v := .pointer (some ⟨b, off + j * 4 + 1, none⟩)) ?_ (by rw [e10])
      generalize (puts A X ds).eval = ρ at h0 ⊢
      go_simp
    · refine ⟨fun _ X W hb hd hu => ?_, fun h => absurd (show true = false from h) (by decide)⟩
      have d0 := hd 10 (by kernel_rfl)
      rw [e10, g10] at d0
      have h0 := (hin (X := X) (k := 61) (by decide)).trans d0
      have c0 := (hb.cell (p := ⟨b, off + j * 4 + 1, none⟩) (lt_cell hi)).trans hi
      refine v_value (V := V 11) (v := .int .i64 x) ?_ (by rw [e11])
      generalize (puts A X ds).eval = ρ at h0 ⊢
      go_simp
    · refine ⟨fun _ X W hb hd hu => ?_, fun h => absurd (show true = false from h) (by decide)⟩
      have d0 := hd 6 (by kernel_rfl)
      rw [e6, g6] at d0
      have h0 := (hin (X := X) (k := 57) (by decide)).trans d0
      have d1 := hd 11 (by kernel_rfl)
      rw [e11, g11] at d1
      have h1 := (hin (X := X) (k := 62) (by decide)).trans d1
      have c0 := (hM.new hb).look hx
      rw [hf] at c0
      refine v_value (V := V 12) (v := .bool false) ?_ (by rw [e12])
      generalize (puts A X ds).eval = ρ at h0 h1 ⊢
      go_simp
    · refine ⟨fun _ X W hb hd hu => ?_, fun h => absurd (show true = false from h) (by decide)⟩
      have d0 := hd 12 (by kernel_rfl)
      rw [e12, g12] at d0
      have h0 := (hin (X := X) (k := 63) (by decide)).trans d0
      refine v_value (V := V 13) (v := .bool false) ?_ (by rw [e13])
      generalize (puts A X ds).eval = ρ at h0 ⊢
      go_simp
    · refine ⟨fun _ X W hb hd hu => ?_, fun h => (by have h' : (gb 13 == false) = false := h; rw [gb13] at h'; cases h')⟩
      have h0 := hout (X := X) (k := 1) (by decide)
      rw [hA1] at h0
      refine v_value (V := V 14) (v := .slice (some ⟨b, off, none⟩) n cap) ?_ (by rw [e14])
      generalize (puts A X ds).eval = ρ at h0 ⊢
      go_simp
    · refine ⟨fun _ X W hb hd hu => ?_, fun h => (by have h' : (gb 13 == false) = false := h; rw [gb13] at h'; cases h')⟩
      have h0 := hout (X := X) (k := 7) (by decide)
      rw [hA7] at h0
      refine v_value (V := V 15) (v := .int .i64 j) ?_ (by rw [e15])
      generalize (puts A X ds).eval = ρ at h0 ⊢
      go_simp
    · refine ⟨fun _ X W hb hd hu => ?_, fun h => (by have h' : (gb 13 == false) = false := h; rw [gb13] at h'; cases h')⟩
      have d0 := hd 14 (by kernel_rfl)
      rw [e14, g14] at d0
      have h0 := (hin (X := X) (k := 65) (by decide)).trans d0
      have d1 := hd 15 (by kernel_rfl)
      rw [e15, g15] at d1
      have h1 := (hin (X := X) (k := 66) (by decide)).trans d1
      have hj1 : (0:Int) ≤ j := by omega
      have hj2 : (j : Int) < n := by omega
      refine v_value (V := V 16) (v := .pointer (some ⟨b, off + j * 4, none⟩)) ?_ (by rw [e16])
      generalize (puts A X ds).eval = ρ at h0 h1 ⊢
      go_simp
    · refine ⟨fun _ X W hb hd hu => ?_, fun h => (by have h' : (gb 13 == false) = false := h; rw [gb13] at h'; cases h')⟩
      have d0 := hd 16 (by kernel_rfl)
      rw [e16, g16] at d0
      have h0 := (hin (X := X) (k := 67) (by decide)).trans d0
      refine v_value (V := V 17) (v := .pointer (some ⟨b, off + j * 4, none⟩)) ?_ (by rw [e17])
      generalize (puts A X ds).eval = ρ at h0 ⊢
      go_simp
    · refine ⟨fun _ X W hb hd hu => ?_, fun h => (by have h' : (gb 13 == false) = false := h; rw [gb13] at h'; cases h')⟩
      have d0 := hd 17 (by kernel_rfl)
      rw [e17, g17] at d0
      have h0 := (hin (X := X) (k := 68) (by decide)).trans d0
      have c0 := (hb.cell (p := ⟨b, off + j * 4, none⟩) (lt_cell hk)).trans hk
      refine v_value (V := V 18) (v := .int .i64 k) ?_ (by rw [e18])
      generalize (puts A X ds).eval = ρ at h0 ⊢
      go_simp
    · refine ⟨fun _ X W hb hd hu => ?_, fun h => (by have h' : (gb 13 == false) = false := h; rw [gb13] at h'; cases h')⟩
      have d0 := hd 18 (by kernel_rfl)
      rw [e18, g18] at d0
      have h0 := (hin (X := X) (k := 69) (by decide)).trans d0
      have h1 : (puts A X ds).eval (.const (.int .i64 2)) = .int .i64 2 := rfl
      refine v_value (V := V 19) (v := .bool (k == 2)) ?_ (by rw [e19])
      generalize (puts A X ds).eval = ρ at h0 h1 ⊢
      go_simp
    · refine ⟨fun _ X W hb hd hu => ?_, fun h => absurd (show true = false from h) (by decide)⟩
      have d0 := hd 13 (by kernel_rfl)
      rw [e13, g13] at d0
      have h0 := (hin (X := X) (k := 64) (by decide)).trans d0
      have d1 := hd 19 (by kernel_rfl)
      rw [e19, g19] at d1
      have h1 := (hin (X := X) (k := 70) (by decide)).trans d1
      have h2 : (puts A X ds).eval (.const (.bool true)) = .bool true := rfl
      refine v_value (V := V 20) (v := .bool (k == 2)) ?_ (by rw [e20])
      generalize (puts A X ds).eval = ρ at h0 h1 h2 ⊢
      go_simp
  · intro X W hb hall
    have r0 := hall 0 (by decide)
    rw [e0, g0] at r0
    have r5 := hall 5 (by decide)
    rw [e5, g5] at r5
    have r20 := hall 20 (by decide)
    rw [e20, g20] at r20
    have h0 := (hin (X := X) (k := 51) (by decide)).trans r0
    have h5 := (hin (X := X) (k := 56) (by decide)).trans r5
    have h20 := (hin (X := X) (k := 71) (by decide)).trans r20
    obtain ⟨W', hrun, hM', hfr⟩ := (hM.new hb).put hmn hx (k == 2)
    refine op_skip (w' := W') ?_ ?_
    · generalize (puts A X ds).eval = ρ at h0 h5 h20 ⊢
      go_simp
    · have := HK X W' ((Fr.ofBelow hb _).trans hfr (fun _ _ h => h)) hM'
      rw [hds] at this
      exact this
end Go.Proofs.Ythnhmhjcpdomcaa
end

section
/- Regions 9 and 10 of MutStands: a truth is put into a map. -/
namespace Go.Proofs.Ythnhmhjcpdomcaa
open Go.RowKit
set_option maxRecDepth 100000 in
set_option maxHeartbeats 4000000 in
theorem stands_r10t {W0 : World} {A : Act} {b off n cap j mb mn : Nat} {x : Int} {f : Int → Bool} {Q : Exit → Act → World → Prop} (hsz : A.tmps.size = 229) (hA1 : A.eval (.tmp 1) = .slice (some ⟨b, off, none⟩) n cap) (hA7 : A.eval (.tmp 7) = .int .i64 j) (hAm : A.eval (.tmp 6) = .map (some mb)) (hj : j < n) (hi : W0.cell? ⟨b, off + j * 4 + 1, none⟩ = some (.int .i64 x)) (hx : I64 x) (hM : BMap W0 mb mn f) (hmn : mn < maxLen) (hf : f x = true)
    (HK : ∀ X W, Fr W0 W (fun i => i = mb) → BMap W mb (mn + 1) (fun y => if y = x then true else f y) → Q .normal (puts A X [72, 73, 74, 75, 76, 77, 78, 79, 80, 81, 82, 83, 84, 85, 86, 87, 88, 89, 90, 91, 92]) W) :
    Code.wp Try.prog ((Try.f8.body.bind (regionJ 10)).getD .skip) Q A W0 := by
  obtain ⟨ds, hds⟩ : ∃ ds, [72, 73, 74, 75, 76, 77, 78, 79, 80, 81, 82, 83, 84, 85, 86, 87, 88, 89, 90, 91, 92] = ds := ⟨_, rfl⟩
  have hlt : ∀ d ∈ [72, 73, 74, 75, 76, 77, 78, 79, 80, 81, 82, 83, 84, 85, 86, 87, 88, 89, 90, 91, 92], d < A.tmps.size := by rw [hsz]; decide
  have hin : ∀ {X : Nat → Value} {k : Nat}, k ∈ [72, 73, 74, 75, 76, 77, 78, 79, 80, 81, 82, 83, 84, 85, 86, 87, 88, 89, 90, 91, 92] → (puts A X ds).eval (.tmp k) = X k := fun hk => by rw [← hds]; exact eval_in hk (hlt _ hk)
  have hout : ∀ {X : Nat → Value} {k : Nat}, k ∉ [72, 73, 74, 75, 76, 77, 78, 79, 80, 81, 82, 83, 84, 85, 86, 87, 88, 89, 90, 91, 92] → (puts A X ds).eval (.tmp k) = A.eval (.tmp k) := fun hk => by rw [← hds]; exact eval_out hk
  have g0 : ds.getD 0 0 = 72 := by rw [← hds]; rfl
  have g1 : ds.getD 1 0 = 73 := by rw [← hds]; rfl
  have g2 : ds.getD 2 0 = 74 := by rw [← hds]; rfl
  have g3 : ds.getD 3 0 = 75 := by rw [← hds]; rfl
  have g4 : ds.getD 4 0 = 76 := by rw [← hds]; rfl
  have g5 : ds.getD 5 0 = 77 := by rw [← hds]; rfl
  have g6 : ds.getD 6 0 = 78 := by rw [← hds]; rfl
  have g7 : ds.getD 7 0 = 79 := by rw [← hds]; rfl
  have g8 : ds.getD 8 0 = 80 := by rw [← hds]; rfl
  have g9 : ds.getD 9 0 = 81 := by rw [← hds]; rfl
  have g10 : ds.getD 10 0 = 82 := by rw [← hds]; rfl
  have g11 : ds.getD 11 0 = 83 := by rw [← hds]; rfl
  have g12 : ds.getD 12 0 = 84 := by rw [← hds]; rfl
  have g13 : ds.getD 13 0 = 85 := by rw [← hds]; rfl
  have g14 : ds.getD 14 0 = 86 := by rw [← hds]; rfl
  have g15 : ds.getD 15 0 = 87 := by rw [← hds]; rfl
  have g16 : ds.getD 16 0 = 88 := by rw [← hds]; rfl
  have g17 : ds.getD 17 0 = 89 := by rw [← hds]; rfl
  have g18 : ds.getD 18 0 = 90 := by rw [← hds]; rfl
  have g19 : ds.getD 19 0 = 91 := by rw [← hds]; rfl
  have g20 : ds.getD 20 0 = 92 := by rw [← hds]; rfl
  obtain ⟨gb, hgbE⟩ : ∃ gb : Nat → Bool, (fun j => if j = 13 then true else true) = gb := ⟨_, rfl⟩
  have gb13 : gb 13 = true := by rw [← hgbE]; rfl
  obtain ⟨V, hV, e0, e1, e2, e3, e4, e5, e6, e7, e8, e9, e10, e11, e12, e13, e14, e15, e16, e17, e18, e19, e20⟩ : ∃ V : Nat → Value → World → Prop, (∀ i v W W', V i v W → Below W.heap.size W W' → V i v W') ∧ (∀ v W, V 0 v W = (v = .map (some mb))) ∧ (∀ v W, V 1 v W = (v = .slice (some ⟨b, off, none⟩) n cap)) ∧ (∀ v W, V 2 v W = (v = .int .i64 j)) ∧ (∀ v W, V 3 v W = (v = .pointer (some ⟨b, off + j * 4, none⟩))) ∧ (∀ v W, V 4 v W = (v = .pointer (some ⟨b, off + j * 4 + 1, none⟩))) ∧ (∀ v W, V 5 v W = (v = .int .i64 x)) ∧ (∀ v W, V 6 v W = (v = .map (some mb))) ∧ (∀ v W, V 7 v W = (v = .slice (some ⟨b, off, none⟩) n cap)) ∧ (∀ v W, V 8 v W = (v = .int .i64 j)) ∧ (∀ v W, V 9 v W = (v = .pointer (some ⟨b, off + j * 4, none⟩))) ∧ (∀ v W, V 10 v W = (v = .pointer (some ⟨b, off + j * 4 + 1, none⟩))) ∧ (∀ v W, V 11 v W = (v = .int .i64 x)) ∧ (∀ v W, V 12 v W = (v = .bool true)) ∧ (∀ v W, V 13 v W = (v = .bool true)) ∧ (∀ v W, V 14 v W = (True)) ∧ (∀ v W, V 15 v W = (True)) ∧ (∀ v W, V 16 v W = (True)) ∧ (∀ v W, V 17 v W = (True)) ∧ (∀ v W, V 18 v W = (True)) ∧ (∀ v W, V 19 v W = (True)) ∧ (∀ v W, V 20 v W = (v = .bool true)) := by
    refine ⟨fun i v W => match i with
      | 0 => v = .map (some mb)
      | 1 => v = .slice (some ⟨b, off, none⟩) n cap
      | 2 => v = .int .i64 j
      | 3 => v = .pointer (some ⟨b, off + j * 4, none⟩)
      | 4 => v = .pointer (some ⟨b, off + j * 4 + 1, none⟩)
      | 5 => v = .int .i64 x
      | 6 => v = .map (some mb)
      | 7 => v = .slice (some ⟨b, off, none⟩) n cap
      | 8 => v = .int .i64 j
      | 9 => v = .pointer (some ⟨b, off + j * 4, none⟩)
      | 10 => v = .pointer (some ⟨b, off + j * 4 + 1, none⟩)
      | 11 => v = .int .i64 x
      | 12 => v = .bool true
      | 13 => v = .bool true
      | 14 => True
      | 15 => True
      | 16 => True
      | 17 => True
      | 18 => True
      | 19 => True
      | 20 => v = .bool true
      | _ => True, ?_, fun _ _ => rfl, fun _ _ => rfl, fun _ _ => rfl, fun _ _ => rfl, fun _ _ => rfl, fun _ _ => rfl, fun _ _ => rfl, fun _ _ => rfl, fun _ _ => rfl, fun _ _ => rfl, fun _ _ => rfl, fun _ _ => rfl, fun _ _ => rfl, fun _ _ => rfl, fun _ _ => rfl, fun _ _ => rfl, fun _ _ => rfl, fun _ _ => rfl, fun _ _ => rfl, fun _ _ => rfl, fun _ _ => rfl⟩
    intro i v W W' h hb
    match i, h with
    | 0, h => exact h
    | 1, h => exact h
    | 2, h => exact h
    | 3, h => exact h
    | 4, h => exact h
    | 5, h => exact h
    | 6, h => exact h
    | 7, h => exact h
    | 8, h => exact h
    | 9, h => exact h
    | 10, h => exact h
    | 11, h => exact h
    | 12, h => exact h
    | 13, h => exact h
    | 14, h => exact h
    | 15, h => exact h
    | 16, h => exact h
    | 17, h => exact h
    | 18, h => exact h
    | 19, h => exact h
    | 20, h => exact h
    | _ + 21, _ => trivial
  conv => arg 2; whnf
  refine wp_region_M 21 rfl ds V gb (by kernel_rfl) (by kernel_rfl) (by kernel_rfl) (by rw [← hds]; kernel_rfl) (by rw [← hds]; exact hlt) hV ?_ ?_ ?_
  · intro i o j want ho hg v W hv
    have hj : j ∈ [13] := guards_at (by kernel_rfl) ho hg
    simp only [List.mem_cons, List.not_mem_nil, or_false] at hj
    rcases hj with rfl
    · rw [gb13]; rw [e13] at hv; exact hv
  · refine ⟨?_, ?_, ?_, ?_, ?_, ?_, ?_, ?_, ?_, ?_, ?_, ?_, ?_, ?_, ?_, ?_, ?_, ?_, ?_, ?_, ?_, trivial⟩
    · refine ⟨fun _ X W hb hd hu => ?_, fun h => absurd (show true = false from h) (by decide)⟩
      have h0 := hout (X := X) (k := 6) (by decide)
      rw [hAm] at h0
      refine v_value (V := V 0) (v := .map (some mb)) ?_ (by rw [e0])
      generalize (puts A X ds).eval = ρ at h0 ⊢
      go_simp
    · refine ⟨fun _ X W hb hd hu => ?_, fun h => absurd (show true = false from h) (by decide)⟩
      have h0 := hout (X := X) (k := 1) (by decide)
      rw [hA1] at h0
      refine v_value (V := V 1) (v := .slice (some ⟨b, off, none⟩) n cap) ?_ (by rw [e1])
      generalize (puts A X ds).eval = ρ at h0 ⊢
      go_simp
    · refine ⟨fun _ X W hb hd hu => ?_, fun h => absurd (show true = false from h) (by decide)⟩
      have h0 := hout (X := X) (k := 7) (by decide)
      rw [hA7] at h0
      refine v_value (V := V 2) (v := .int .i64 j) ?_ (by rw [e2])
      generalize (puts A X ds).eval = ρ at h0 ⊢
      go_simp
    · refine ⟨fun _ X W hb hd hu => ?_, fun h => absurd (show true = false from h) (by decide)⟩
      have d0 := hd 1 (by kernel_rfl)
      rw [e1, g1] at d0
      have h0 := (hin (X := X) (k := 73) (by decide)).trans d0
      have d1 := hd 2 (by kernel_rfl)
      rw [e2, g2] at d1
      have h1 := (hin (X := X) (k := 74) (by decide)).trans d1
      have hj1 : (0:Int) ≤ j := by omega
      have hj2 : (j : Int) < n := by omega
      refine v_value (V := V 3) (v := .pointer (some ⟨b, off + j * 4, none⟩)) ?_ (by rw [e3])
      generalize (puts A X ds).eval = ρ at h0 h1 ⊢
      go_simp
    · refine ⟨fun _ X W hb hd hu => ?_, fun h => absurd (show true = false from h) (by decide)⟩
      have d0 := hd 3 (by kernel_rfl)
      rw [e3, g3] at d0
      have h0 := (hin (X := X) (k := 75) (by decide)).trans d0
      refine v_value (V := V 4) (v := .pointer (some ⟨b, off + j * 4 + 1, none⟩)) ?_ (by rw [e4])
      generalize (puts A X ds).eval = ρ at h0 ⊢
      go_simp
    · refine ⟨fun _ X W hb hd hu => ?_, fun h => absurd (show true = false from h) (by decide)⟩
      have d0 := hd 4 (by kernel_rfl)
      rw [e4, g4] at d0
      have h0 := (hin (X := X) (k := 76) (by decide)).trans d0
      have c0 := (hb.cell (p := ⟨b, off + j * 4 + 1, none⟩) (lt_cell hi)).trans hi
      refine v_value (V := V 5) (v := .int .i64 x) ?_ (by rw [e5])
      generalize (puts A X ds).eval = ρ at h0 ⊢
      go_simp
    · refine ⟨fun _ X W hb hd hu => ?_, fun h => absurd (show true = false from h) (by decide)⟩
      have h0 := hout (X := X) (k := 6) (by decide)
      rw [hAm] at h0
      refine v_value (V := V 6) (v := .map (some mb)) ?_ (by rw [e6])
      generalize (puts A X ds).eval = ρ at h0 ⊢
      go_simp
    · refine ⟨fun _ X W hb hd hu => ?_, fun h => absurd (show true = false from h) (by decide)⟩
      have h0 := hout (X := X) (k := 1) (by decide)
      rw [hA1] at h0
      refine v_value (V := V 7) (v := .slice (some ⟨b, off, none⟩) n cap) ?_ (by rw [e7])
      generalize (puts A X ds).eval = ρ at h0 ⊢
      go_simp
    · refine ⟨fun _ X W hb hd hu => ?_, fun h => absurd (show true = false from h) (by decide)⟩
      have h0 := hout (X := X) (k := 7) (by decide)
      rw [hA7] at h0
      refine v_value (V := V 8) (v := .int .i64 j) ?_ (by rw [e8])
      generalize (puts A X ds).eval = ρ at h0 ⊢
      go_simp
    · refine ⟨fun _ X W hb hd hu => ?_, fun h => absurd (show true = false from h) (by decide)⟩
      have d0 := hd 7 (by kernel_rfl)
      rw [e7, g7] at d0
      have h0 := (hin (X := X) (k := 79) (by decide)).trans d0
      have d1 := hd 8 (by kernel_rfl)
      rw [e8, g8] at d1
      have h1 := (hin (X := X) (k := 80) (by decide)).trans d1
      have hj1 : (0:Int) ≤ j := by omega
      have hj2 : (j : Int) < n := by omega
      refine v_value (V := V 9) (v := .pointer (some ⟨b, off + j * 4, none⟩)) ?_ (by rw [e9])
      generalize (puts A X ds).eval = ρ at h0 h1 ⊢
      go_simp
    · refine ⟨fun _ X W hb hd hu => ?_, fun h => absurd (show true = false from h) (by decide)⟩
      have d0 := hd 9 (by kernel_rfl)
      rw [e9, g9] at d0
      have h0 := (hin (X := X) (k := 81) (by decide)).trans d0
      refine v_value (V := V 10) (v := .pointer (some ⟨b, off + j * 4 + 1, none⟩)) ?_ (by rw [e10])
      generalize (puts A X ds).eval = ρ at h0 ⊢
      go_simp
    · refine ⟨fun _ X W hb hd hu => ?_, fun h => absurd (show true = false from h) (by decide)⟩
      have d0 := hd 10 (by kernel_rfl)
      rw [e10, g10] at d0
      have h0 := (hin (X := X) (k := 82) (by decide)).trans d0
      have c0 := (hb.cell (p := ⟨b, off + j * 4 + 1, none⟩) (lt_cell hi)).trans hi
      refine v_value (V := V 11) (v := .int .i64 x) ?_ (by rw [e11])
      generalize (puts A X ds).eval = ρ at h0 ⊢
      go_simp
    · refine ⟨fun _ X W hb hd hu => ?_, fun h => absurd (show true = false from h) (by decide)⟩
      have d0 := hd 6 (by kernel_rfl)
      rw [e6, g6] at d0
      have h0 := (hin (X := X) (k := 78) (by decide)).trans d0
      have d1 := hd 11 (by kernel_rfl)
      rw [e11, g11] at d1
      have h1 := (hin (X := X) (k := 83) (by decide)).trans d1
      have c0 := (hM.new hb).look hx
      rw [hf] at c0
      refine v_value (V := V 12) (v := .bool true) ?_ (by rw [e12])
      generalize (puts A X ds).eval = ρ at h0 h1 ⊢
      go_simp
    · refine ⟨fun _ X W hb hd hu => ?_, fun h => absurd (show true = false from h) (by decide)⟩
      have d0 := hd 12 (by kernel_rfl)
      rw [e12, g12] at d0
      have h0 := (hin (X := X) (k := 84) (by decide)).trans d0
      refine v_value (V := V 13) (v := .bool true) ?_ (by rw [e13])
      generalize (puts A X ds).eval = ρ at h0 ⊢
      go_simp
    · refine ⟨fun h => (by have h' : (gb 13 == false) = true := h; rw [gb13] at h'; cases h'), fun _ W => (by rw [e14]; trivial)⟩
    · refine ⟨fun h => (by have h' : (gb 13 == false) = true := h; rw [gb13] at h'; cases h'), fun _ W => (by rw [e15]; trivial)⟩
    · refine ⟨fun h => (by have h' : (gb 13 == false) = true := h; rw [gb13] at h'; cases h'), fun _ W => (by rw [e16]; trivial)⟩
    · refine ⟨fun h => (by have h' : (gb 13 == false) = true := h; rw [gb13] at h'; cases h'), fun _ W => (by rw [e17]; trivial)⟩
    · refine ⟨fun h => (by have h' : (gb 13 == false) = true := h; rw [gb13] at h'; cases h'), fun _ W => (by rw [e18]; trivial)⟩
    · refine ⟨fun h => (by have h' : (gb 13 == false) = true := h; rw [gb13] at h'; cases h'), fun _ W => (by rw [e19]; trivial)⟩
    · refine ⟨fun _ X W hb hd hu => ?_, fun h => absurd (show true = false from h) (by decide)⟩
      have d0 := hd 13 (by kernel_rfl)
      rw [e13, g13] at d0
      have h0 := (hin (X := X) (k := 85) (by decide)).trans d0
      have h1 : (puts A X ds).eval (.const (.bool true)) = .bool true := rfl
      refine v_value (V := V 20) (v := .bool true) ?_ (by rw [e20])
      generalize (puts A X ds).eval = ρ at h0 h1 ⊢
      go_simp
  · intro X W hb hall
    have r0 := hall 0 (by decide)
    rw [e0, g0] at r0
    have r5 := hall 5 (by decide)
    rw [e5, g5] at r5
    have r20 := hall 20 (by decide)
    rw [e20, g20] at r20
    have h0 := (hin (X := X) (k := 72) (by decide)).trans r0
    have h5 := (hin (X := X) (k := 77) (by decide)).trans r5
    have h20 := (hin (X := X) (k := 92) (by decide)).trans r20
    obtain ⟨W', hrun, hM', hfr⟩ := (hM.new hb).put hmn hx true
    refine op_skip (w' := W') ?_ ?_
    · generalize (puts A X ds).eval = ρ at h0 h5 h20 ⊢
      go_simp
    · have := HK X W' ((Fr.ofBelow hb _).trans hfr (fun _ _ h => h)) hM'
      rw [hds] at this
      exact this
end Go.Proofs.Ythnhmhjcpdomcaa
end
