import Derived.Test.YtnhijofnhflklaaGreatRegTM
import Derived.Test.YtnhijofnhflklaaGreatRnTurn2M
import Derived.Test.YtnhijofnhflklaaGreatKnDataM
import Derived.Deep.MidRow
import Derived.Deep.Cut
import Derived.Deep.DeepCutAuto
import Derived.Test.YtnhijofnhflklaaGreatGrTakeM
import Derived.BigQuiet
section
/- Region 5 of turn: what the vertex is given. -/
namespace Go.Proofs.YtnhijofnhflklaaGreat
open Go.RowKit
theorem range3 {W : World} {b o : Nat} {x y z : Value} (h0 : W.cell? ⟨b, o, none⟩ = some x) (h1 : W.cell? ⟨b, o + 1, none⟩ = some y) (h2 : W.cell? ⟨b, o + 2, none⟩ = some z) : W.rangeAt b o [x, y, z] := by
  intro j v hv
  match j, hv with
  | 0, hv => cases hv; exact h0
  | 1, hv => cases hv; exact h1
  | 2, hv => cases hv; exact h2
  | _ + 3, hv => cases hv
theorem m_frozR {W : World} {b o : Nat} {t : TypeId} {cs : Array Value} (h : W.heap[b]? = some (.cells cs t (0, 0))) : W.frozen? ⟨b, o, none⟩ = false := by simp [World.frozen?, h]
theorem there3 {W : World} {b : Nat} {a0 a1 a2 a3 a4 a5 a6 a7 a8 a9 a10 a11 a12 a13 a14 a15 a16 a17 : Value} (h : InBox W b #[a0, a1, a2, a3, a4, a5, a6, a7, a8, a9, a10, a11, a12, a13, a14, a15, a16, a17]) : W.there b 1 3 := by
  intro j hj
  unfold InBox at h
  refine ⟨?_, m_frozR h⟩
  rcases (show j = 0 ∨ j = 1 ∨ j = 2 by omega) with rfl | rfl | rfl <;> simp [World.cell?, h]
theorem size_vx : (Tryz.prog.info? 82).map (·.size) = some 3 := by kernel_rfl
set_option maxRecDepth 100000 in
set_option maxHeartbeats 2000000 in
theorem turn_r5 {W0 : World} {A : Act} {p ib rb off hm en ec mn mc : Nat} {eo mo : Option Addr} {id va : Int} {ha : Bool} {a0 a16 a17 z1 z2 z3 z4 z5 y0 y1 y2 y3 y4 y5 y6 y7 y8 y9 : Value} {K : Act → World → Prop} {Q' : Exit → Act → World → Prop} (hsz : A.tmps.size = 75) (hA0 : A.eval (.tmp 0) = .pointer (some ⟨p, 0, none⟩)) (hA7 : A.eval (.tmp 7) = .pointer (some ⟨ib, 0, none⟩)) (hA9 : A.eval (.tmp 9) = .pointer (some ⟨rb, off, none⟩)) (hA10 : A.eval (.tmp 10) = .slice mo mn mc) (hI : W0.cell? ⟨rb, off, none⟩ = some (.int .i64 id)) (hI1 : W0.cell? ⟨rb, off + 1, none⟩ = some (.int .i64 va)) (hI2 : W0.cell? ⟨rb, off + 2, none⟩ = some (.slice eo en ec)) (hP1 : W0.cell? ⟨p, 1, none⟩ = some (.map (some hm))) (hLk : ∀ W, W.heap[hm]? = W0.heap[hm]? → (Instr.lookup 109 (.map (some hm)) (.int .i64 id) false).run Tryz.prog W = .ok (.bool ha) W) (hml : hm < W0.heap.size) (hrb : ¬ rb = ib) (hpb : ¬ p = ib) (hhb : ¬ hm = ib) (hIn : InBox W0 ib #[a0, z1, z2, z3, z4, z5, y0, y1, y2, y3, y4, y5, y6, y7, y8, y9, a16, a17])
    (HK : ∀ X W, Fr W0 W (fun k => k = ib) ∧ InBox W ib #[a0, .int .i64 id, .int .i64 va, .slice eo en ec, .bool ha, .slice mo mn mc, y0, y1, y2, y3, y4, y5, y6, y7, y8, y9, a16, a17] → K (puts A X [39, 40, 41, 42, 43, 44, 45, 46, 47, 48, 49, 50, 51, 52, 1000014, 53, 1000016, 54, 1000018]) W) :
    Code.wp Tryz.prog ((Tryz.f84.body.bind (regionJ 5)).getD .skip) (Exit.then K Q') A W0 := by
  obtain ⟨ds, hds⟩ : ∃ ds, [39, 40, 41, 42, 43, 44, 45, 46, 47, 48, 49, 50, 51, 52, 1000014, 53, 1000016, 54, 1000018] = ds := ⟨_, rfl⟩
  have hin : ∀ {X : Nat → Value} {k : Nat}, k ∈ [39, 40, 41, 42, 43, 44, 45, 46, 47, 48, 49, 50, 51, 52, 1000014, 53, 1000016, 54, 1000018] → k < 75 → (puts A X ds).eval (.tmp k) = X k := fun hk hl => by rw [← hds]; exact eval_in hk (by rw [hsz]; exact hl)
  have hout : ∀ {X : Nat → Value} {k : Nat}, k ∉ [39, 40, 41, 42, 43, 44, 45, 46, 47, 48, 49, 50, 51, 52, 1000014, 53, 1000016, 54, 1000018] → (puts A X ds).eval (.tmp k) = A.eval (.tmp k) := fun hk => by rw [← hds]; exact eval_out hk
  have g0 : ds.getD 0 0 = 39 := by rw [← hds]; rfl
  have g1 : ds.getD 1 0 = 40 := by rw [← hds]; rfl
  have g2 : ds.getD 2 0 = 41 := by rw [← hds]; rfl
  have g3 : ds.getD 3 0 = 42 := by rw [← hds]; rfl
  have g4 : ds.getD 4 0 = 43 := by rw [← hds]; rfl
  have g5 : ds.getD 5 0 = 44 := by rw [← hds]; rfl
  have g6 : ds.getD 6 0 = 45 := by rw [← hds]; rfl
  have g7 : ds.getD 7 0 = 46 := by rw [← hds]; rfl
  have g8 : ds.getD 8 0 = 47 := by rw [← hds]; rfl
  have g9 : ds.getD 9 0 = 48 := by rw [← hds]; rfl
  have g10 : ds.getD 10 0 = 49 := by rw [← hds]; rfl
  have g11 : ds.getD 11 0 = 50 := by rw [← hds]; rfl
  have g12 : ds.getD 12 0 = 51 := by rw [← hds]; rfl
  have g13 : ds.getD 13 0 = 52 := by rw [← hds]; rfl
  have g14 : ds.getD 14 0 = 1000014 := by rw [← hds]; rfl
  have g15 : ds.getD 15 0 = 53 := by rw [← hds]; rfl
  have g16 : ds.getD 16 0 = 1000016 := by rw [← hds]; rfl
  have g17 : ds.getD 17 0 = 54 := by rw [← hds]; rfl
  have g18 : ds.getD 18 0 = 1000018 := by rw [← hds]; rfl
  obtain ⟨R, hR⟩ : ∃ R : World → World → Prop, ∀ W W', R W W' = (True) := ⟨fun W W' => True, fun _ _ => rfl⟩
  obtain ⟨V, hV, e0, e1, e2, e3, e4, e5, e6, e7, e8, e9, e10, e11, e12, e13, e14, e15, e16, e17, e18⟩ : ∃ V : Nat → Value → World → Prop, (∀ i v W W', V i v W → R W W' → V i v W') ∧ (∀ v W, V 0 v W = (v = .pointer (some ⟨rb, off, none⟩))) ∧ (∀ v W, V 1 v W = (v = .pointer (some ⟨rb, off, none⟩))) ∧ (∀ v W, V 2 v W = (v = .agg #[.int .i64 id, .int .i64 va, .slice eo en ec])) ∧ (∀ v W, V 3 v W = (v = .pointer (some ⟨p, 0, none⟩))) ∧ (∀ v W, V 4 v W = (v = .pointer (some ⟨p, 0, none⟩))) ∧ (∀ v W, V 5 v W = (v = .pointer (some ⟨p, 1, none⟩))) ∧ (∀ v W, V 6 v W = (v = .map (some hm))) ∧ (∀ v W, V 7 v W = (v = .pointer (some ⟨rb, off, none⟩))) ∧ (∀ v W, V 8 v W = (v = .pointer (some ⟨rb, off, none⟩))) ∧ (∀ v W, V 9 v W = (v = .pointer (some ⟨rb, off, none⟩))) ∧ (∀ v W, V 10 v W = (v = .int .i64 id)) ∧ (∀ v W, V 11 v W = (v = .bool ha)) ∧ (∀ v W, V 12 v W = (v = .slice mo mn mc)) ∧ (∀ v W, V 13 v W = (v = .pointer (some ⟨ib, 1, none⟩))) ∧ (∀ v W, V 14 v W = (True)) ∧ (∀ v W, V 15 v W = (v = .pointer (some ⟨ib, 4, none⟩))) ∧ (∀ v W, V 16 v W = (True)) ∧ (∀ v W, V 17 v W = (v = .pointer (some ⟨ib, 5, none⟩))) ∧ (∀ v W, V 18 v W = (True)) := by
    refine ⟨fun i v W => match i with
      | 0 => v = .pointer (some ⟨rb, off, none⟩)
      | 1 => v = .pointer (some ⟨rb, off, none⟩)
      | 2 => v = .agg #[.int .i64 id, .int .i64 va, .slice eo en ec]
      | 3 => v = .pointer (some ⟨p, 0, none⟩)
      | 4 => v = .pointer (some ⟨p, 0, none⟩)
      | 5 => v = .pointer (some ⟨p, 1, none⟩)
      | 6 => v = .map (some hm)
      | 7 => v = .pointer (some ⟨rb, off, none⟩)
      | 8 => v = .pointer (some ⟨rb, off, none⟩)
      | 9 => v = .pointer (some ⟨rb, off, none⟩)
      | 10 => v = .int .i64 id
      | 11 => v = .bool ha
      | 12 => v = .slice mo mn mc
      | 13 => v = .pointer (some ⟨ib, 1, none⟩)
      | 14 => True
      | 15 => v = .pointer (some ⟨ib, 4, none⟩)
      | 16 => True
      | 17 => v = .pointer (some ⟨ib, 5, none⟩)
      | 18 => True
      | _ => True, ?_, fun _ _ => rfl, fun _ _ => rfl, fun _ _ => rfl, fun _ _ => rfl, fun _ _ => rfl, fun _ _ => rfl, fun _ _ => rfl, fun _ _ => rfl, fun _ _ => rfl, fun _ _ => rfl, fun _ _ => rfl, fun _ _ => rfl, fun _ _ => rfl, fun _ _ => rfl, fun _ _ => rfl, fun _ _ => rfl, fun _ _ => rfl, fun _ _ => rfl, fun _ _ => rfl⟩
    intro i v W W' h hb
    rw [hR] at hb
    match i, h with
    | 0, h => exact h
    | 1, h => exact h
    | 2, h => exact h
    | 3, h => exact h
    | 4, h => exact h
    | 5, h => exact h
    | 6, h => exact h
    | 7, h => exact h
    | 8, h => exact h
    | 9, h => exact h
    | 10, h => exact h
    | 11, h => exact h
    | 12, h => exact h
    | 13, h => exact h
    | 14, h => exact h
    | 15, h => exact h
    | 16, h => exact h
    | 17, h => exact h
    | 18, h => exact h
    | _ + 19, _ => trivial
  obtain ⟨T, hTC, hTS, t0, t1, t2, t3⟩ : ∃ T : Nat → (Nat → Value) → World → Prop, (∀ m X W, T m X W → (Fr W0 W (fun k => k = ib))) ∧ (∀ m X X' W, (∀ i, i < 19 → ([none, none, none, none, none, none, none, none, none, none, none, none, none, none, some 0, none, some 1, none, some 2] : List (Option Nat)).getD i none ≠ none → X (ds.getD i 0) = X' (ds.getD i 0)) → T m X W → T m X' W) ∧ (∀ X W, T 0 X W = (Fr W0 W (fun k => k = ib) ∧ InBox W ib #[a0, z1, z2, z3, z4, z5, y0, y1, y2, y3, y4, y5, y6, y7, y8, y9, a16, a17])) ∧ (∀ X W, T 1 X W = (Fr W0 W (fun k => k = ib) ∧ InBox W ib #[a0, .int .i64 id, .int .i64 va, .slice eo en ec, z4, z5, y0, y1, y2, y3, y4, y5, y6, y7, y8, y9, a16, a17])) ∧ (∀ X W, T 2 X W = (Fr W0 W (fun k => k = ib) ∧ InBox W ib #[a0, .int .i64 id, .int .i64 va, .slice eo en ec, .bool ha, z5, y0, y1, y2, y3, y4, y5, y6, y7, y8, y9, a16, a17])) ∧ (∀ X W, T 3 X W = (Fr W0 W (fun k => k = ib) ∧ InBox W ib #[a0, .int .i64 id, .int .i64 va, .slice eo en ec, .bool ha, .slice mo mn mc, y0, y1, y2, y3, y4, y5, y6, y7, y8, y9, a16, a17])) := by
    refine ⟨fun m X W => match m with
      | 0 => Fr W0 W (fun k => k = ib) ∧ InBox W ib #[a0, z1, z2, z3, z4, z5, y0, y1, y2, y3, y4, y5, y6, y7, y8, y9, a16, a17]
      | 1 => Fr W0 W (fun k => k = ib) ∧ InBox W ib #[a0, .int .i64 id, .int .i64 va, .slice eo en ec, z4, z5, y0, y1, y2, y3, y4, y5, y6, y7, y8, y9, a16, a17]
      | 2 => Fr W0 W (fun k => k = ib) ∧ InBox W ib #[a0, .int .i64 id, .int .i64 va, .slice eo en ec, .bool ha, z5, y0, y1, y2, y3, y4, y5, y6, y7, y8, y9, a16, a17]
      | 3 => Fr W0 W (fun k => k = ib) ∧ InBox W ib #[a0, .int .i64 id, .int .i64 va, .slice eo en ec, .bool ha, .slice mo mn mc, y0, y1, y2, y3, y4, y5, y6, y7, y8, y9, a16, a17]
      | _ => False, ?_, ?_, fun _ _ => rfl, fun _ _ => rfl, fun _ _ => rfl, fun _ _ => rfl⟩
    · intro m X W h
      match m, h with
      | 0, h => exact h.1
      | 1, h => exact h.1
      | 2, h => exact h.1
      | 3, h => exact h.1
    · intro m X X' W he h
      match m, h with
      | 0, h => exact h
      | 1, h => exact h
      | 2, h => exact h
      | 3, h => exact h
  conv => arg 2; whnf
  refine wp_region_T ds [none, none, none, none, none, none, none, none, none, none, none, none, none, none, some 0, none, some 1, none, some 2] 3 V T R (by kernel_rfl) (by kernel_rfl) (by rw [hsz]; decide) (by rw [← hds]; kernel_rfl) (by kernel_rfl) hV hTS ?_ ?_ ?_
  · rw [t0]; exact ⟨Fr.drew _ _, hIn⟩
  · refine ⟨⟨?_, ?_⟩, ⟨?_, ?_⟩, ⟨?_, ?_⟩, ⟨?_, ?_⟩, ⟨?_, ?_⟩, ⟨?_, ?_⟩, ⟨?_, ?_⟩, ⟨?_, ?_⟩, ⟨?_, ?_⟩, ⟨?_, ?_⟩, ⟨?_, ?_⟩, ⟨?_, ?_⟩, ⟨?_, ?_⟩, ⟨?_, ?_⟩, ⟨?_, ?_⟩, ⟨?_, ?_⟩, ⟨?_, ?_⟩, ⟨?_, ?_⟩, ⟨?_, ?_⟩, trivial⟩
    · intro _ X W m hTm hw hd hu
      have hC := hTC _ _ _ hTm
      have h0 := hout (X := X) (k := 9) (by decide)
      rw [hA9] at h0
      refine op_value (v := .pointer (some ⟨rb, off, none⟩)) (w' := W) ?_ ⟨_, rfl, by rw [e0], hTm, by rw [hR]; trivial⟩
      generalize (puts A X ds).eval = ρ at h0 ⊢
      go_simp
    · intro m h; have h' : (none : Option Nat) = some m := h; cases h'
    · intro _ X W m hTm hw hd hu
      have hC := hTC _ _ _ hTm
      have d0 := hd 0 (by kernel_rfl)
      rw [e0, g0] at d0
      have h0 := (hin (X := X) (k := 39) (by decide) (by decide)).trans d0
      refine op_value (v := .pointer (some ⟨rb, off, none⟩)) (w' := W) ?_ ⟨_, rfl, by rw [e1], hTm, by rw [hR]; trivial⟩
      generalize (puts A X ds).eval = ρ at h0 ⊢
      go_simp
    · intro m h; have h' : (none : Option Nat) = some m := h; cases h'
    · intro _ X W m hTm hw hd hu
      have hC := hTC _ _ _ hTm
      have d0 := hd 1 (by kernel_rfl)
      rw [e1, g1] at d0
      have h0 := (hin (X := X) (k := 40) (by decide) (by decide)).trans d0
      exact wp_load_mid 82 _ rfl rb off h0 [.int .i64 id, .int .i64 va, .slice eo en ec] _ (range3 (fr_cell hC hrb hI) (fr_cell hC hrb hI1) (fr_cell hC hrb hI2)) Tryz.underlying82 rfl size_vx ⟨_, rfl, by rw [e2], hTm, by rw [hR]; trivial⟩
    · intro m h; have h' : (none : Option Nat) = some m := h; cases h'
    · intro _ X W m hTm hw hd hu
      have hC := hTC _ _ _ hTm
      have h0 := hout (X := X) (k := 0) (by decide)
      rw [hA0] at h0
      refine op_value (v := .pointer (some ⟨p, 0, none⟩)) (w' := W) ?_ ⟨_, rfl, by rw [e3], hTm, by rw [hR]; trivial⟩
      generalize (puts A X ds).eval = ρ at h0 ⊢
      go_simp
    · intro m h; have h' : (none : Option Nat) = some m := h; cases h'
    · intro _ X W m hTm hw hd hu
      have hC := hTC _ _ _ hTm
      have d0 := hd 3 (by kernel_rfl)
      rw [e3, g3] at d0
      have h0 := (hin (X := X) (k := 42) (by decide) (by decide)).trans d0
      refine op_value (v := .pointer (some ⟨p, 0, none⟩)) (w' := W) ?_ ⟨_, rfl, by rw [e4], hTm, by rw [hR]; trivial⟩
      generalize (puts A X ds).eval = ρ at h0 ⊢
      go_simp
    · intro m h; have h' : (none : Option Nat) = some m := h; cases h'
    · intro _ X W m hTm hw hd hu
      have hC := hTC _ _ _ hTm
      have d0 := hd 4 (by kernel_rfl)
      rw [e4, g4] at d0
      have h0 := (hin (X := X) (k := 43) (by decide) (by decide)).trans d0
      refine op_value (v := .pointer (some ⟨p, 1, none⟩)) (w' := W) ?_ ⟨_, rfl, by rw [e5], hTm, by rw [hR]; trivial⟩
      generalize (puts A X ds).eval = ρ at h0 ⊢
      go_simp
    · intro m h; have h' : (none : Option Nat) = some m := h; cases h'
    · intro _ X W m hTm hw hd hu
      have hC := hTC _ _ _ hTm
      have d0 := hd 5 (by kernel_rfl)
      rw [e5, g5] at d0
      have h0 := (hin (X := X) (k := 44) (by decide) (by decide)).trans d0
      have c0 := fr_cell hC hpb hP1
      refine op_value (v := .map (some hm)) (w' := W) ?_ ⟨_, rfl, by rw [e6], hTm, by rw [hR]; trivial⟩
      generalize (puts A X ds).eval = ρ at h0 ⊢
      go_simp
    · intro m h; have h' : (none : Option Nat) = some m := h; cases h'
    · intro _ X W m hTm hw hd hu
      have hC := hTC _ _ _ hTm
      have h0 := hout (X := X) (k := 9) (by decide)
      rw [hA9] at h0
      refine op_value (v := .pointer (some ⟨rb, off, none⟩)) (w' := W) ?_ ⟨_, rfl, by rw [e7], hTm, by rw [hR]; trivial⟩
      generalize (puts A X ds).eval = ρ at h0 ⊢
      go_simp
    · intro m h; have h' : (none : Option Nat) = some m := h; cases h'
    · intro _ X W m hTm hw hd hu
      have hC := hTC _ _ _ hTm
      have d0 := hd 7 (by kernel_rfl)
      rw [e7, g7] at d0
      have h0 := (hin (X := X) (k := 46) (by decide) (by decide)).trans d0
      refine op_value (v := .pointer (some ⟨rb, off, none⟩)) (w' := W) ?_ ⟨_, rfl, by rw [e8], hTm, by rw [hR]; trivial⟩
      generalize (puts A X ds).eval = ρ at h0 ⊢
      go_simp
    · intro m h; have h' : (none : Option Nat) = some m := h; cases h'
    · intro _ X W m hTm hw hd hu
      have hC := hTC _ _ _ hTm
      have d0 := hd 8 (by kernel_rfl)
      rw [e8, g8] at d0
      have h0 := (hin (X := X) (k := 47) (by decide) (by decide)).trans d0
      refine op_value (v := .pointer (some ⟨rb, off, none⟩)) (w' := W) ?_ ⟨_, rfl, by rw [e9], hTm, by rw [hR]; trivial⟩
      generalize (puts A X ds).eval = ρ at h0 ⊢
      go_simp
    · intro m h; have h' : (none : Option Nat) = some m := h; cases h'
    · intro _ X W m hTm hw hd hu
      have hC := hTC _ _ _ hTm
      have d0 := hd 9 (by kernel_rfl)
      rw [e9, g9] at d0
      have h0 := (hin (X := X) (k := 48) (by decide) (by decide)).trans d0
      have c0 := fr_cell hC hrb hI
      refine op_value (v := .int .i64 id) (w' := W) ?_ ⟨_, rfl, by rw [e10], hTm, by rw [hR]; trivial⟩
      generalize (puts A X ds).eval = ρ at h0 ⊢
      go_simp
    · intro m h; have h' : (none : Option Nat) = some m := h; cases h'
    · intro _ X W m hTm hw hd hu
      have hC := hTC _ _ _ hTm
      have d0 := hd 6 (by kernel_rfl)
      rw [e6, g6] at d0
      have h0 := (hin (X := X) (k := 45) (by decide) (by decide)).trans d0
      have d1 := hd 10 (by kernel_rfl)
      rw [e10, g10] at d1
      have h1 := (hin (X := X) (k := 49) (by decide) (by decide)).trans d1
      have c0 := hLk W (hC.block hm hml hhb)
      refine op_value (v := .bool ha) (w' := W) ?_ ⟨_, rfl, by rw [e11], hTm, by rw [hR]; trivial⟩
      generalize (puts A X ds).eval = ρ at h0 h1 ⊢
      go_simp
    · intro m h; have h' : (none : Option Nat) = some m := h; cases h'
    · intro _ X W m hTm hw hd hu
      have hC := hTC _ _ _ hTm
      have h0 := hout (X := X) (k := 10) (by decide)
      rw [hA10] at h0
      refine op_value (v := .slice mo mn mc) (w' := W) ?_ ⟨_, rfl, by rw [e12], hTm, by rw [hR]; trivial⟩
      generalize (puts A X ds).eval = ρ at h0 ⊢
      go_simp
    · intro m h; have h' : (none : Option Nat) = some m := h; cases h'
    · intro _ X W m hTm hw hd hu
      have hC := hTC _ _ _ hTm
      have h0 := hout (X := X) (k := 7) (by decide)
      rw [hA7] at h0
      refine op_value (v := .pointer (some ⟨ib, 1, none⟩)) (w' := W) ?_ ⟨_, rfl, by rw [e13], hTm, by rw [hR]; trivial⟩
      generalize (puts A X ds).eval = ρ at h0 ⊢
      go_simp
    · intro m h; have h' : (none : Option Nat) = some m := h; cases h'
    · intro h; have h' : (some 0 : Option Nat) = none := h; cases h'
    · intro m hm0 X W hTm hd hu
      have hm1 : some 0 = some m := hm0
      cases hm1
      have hC := hTC _ _ _ hTm
      have d0 := hd 13 (by kernel_rfl)
      rw [e13, g13] at d0
      have h0 := (hin (X := X) (k := 52) (by decide) (by decide)).trans d0
      have d1 := hd 2 (by kernel_rfl)
      rw [e2, g2] at d1
      have h1 := (hin (X := X) (k := 41) (by decide) (by decide)).trans d1
      rw [t0] at hTm
      obtain ⟨hf, hbx⟩ := hTm
      exact wp_store_mid 82 _ _ rfl ib 1 #[.int .i64 id, .int .i64 va, .slice eo en ec] h0 h1 (there3 hbx) size_vx (by simp [Value.oneCell']) ⟨_, rfl, by rw [e14]; trivial, by rw [t1]; exact ⟨hf.trans (fr_setCells (S := fun k => k = ib) ib rfl _ _ _) (fun _ _ h => h), setCells_heap _ 1 W _ hbx (by simp)⟩, by rw [hR]; trivial⟩
    · intro _ X W m hTm hw hd hu
      have hC := hTC _ _ _ hTm
      have h0 := hout (X := X) (k := 7) (by decide)
      rw [hA7] at h0
      refine op_value (v := .pointer (some ⟨ib, 4, none⟩)) (w' := W) ?_ ⟨_, rfl, by rw [e15], hTm, by rw [hR]; trivial⟩
      generalize (puts A X ds).eval = ρ at h0 ⊢
      go_simp
    · intro m h; have h' : (none : Option Nat) = some m := h; cases h'
    · intro h; have h' : (some 1 : Option Nat) = none := h; cases h'
    · intro m hm0 X W hTm hd hu
      have hm1 : some 1 = some m := hm0
      cases hm1
      have hC := hTC _ _ _ hTm
      have d0 := hd 15 (by kernel_rfl)
      rw [e15, g15] at d0
      have h0 := (hin (X := X) (k := 53) (by decide) (by decide)).trans d0
      have d1 := hd 11 (by kernel_rfl)
      rw [e11, g11] at d1
      have h1 := (hin (X := X) (k := 50) (by decide) (by decide)).trans d1
      rw [t1] at hTm
      obtain ⟨hf, hbx⟩ := hTm
      obtain ⟨zz, q0⟩ : ∃ zz, W.cell? ⟨ib, 4, none⟩ = some zz := by unfold InBox at hbx; simp [World.cell?, hbx]
      have q1 : W.frozen? ⟨ib, 4, none⟩ = false := m_frozR hbx
      refine op_skip (w' := W.setCell ⟨ib, 4, none⟩ (.bool ha)) ?_ ⟨_, rfl, by rw [e16]; trivial, ?_, by rw [hR]; trivial⟩
      · generalize (puts A X ds).eval = ρ at h0 h1 ⊢
        go_simp
      · rw [t2]
        exact ⟨hf.trans (Fr.setCell (S := fun k => k = ib) W ⟨ib, 4, none⟩ _ rfl) (fun _ _ h => h), set_heap hbx _ _⟩
    · intro _ X W m hTm hw hd hu
      have hC := hTC _ _ _ hTm
      have h0 := hout (X := X) (k := 7) (by decide)
      rw [hA7] at h0
      refine op_value (v := .pointer (some ⟨ib, 5, none⟩)) (w' := W) ?_ ⟨_, rfl, by rw [e17], hTm, by rw [hR]; trivial⟩
      generalize (puts A X ds).eval = ρ at h0 ⊢
      go_simp
    · intro m h; have h' : (none : Option Nat) = some m := h; cases h'
    · intro h; have h' : (some 2 : Option Nat) = none := h; cases h'
    · intro m hm0 X W hTm hd hu
      have hm1 : some 2 = some m := hm0
      cases hm1
      have hC := hTC _ _ _ hTm
      have d0 := hd 17 (by kernel_rfl)
      rw [e17, g17] at d0
      have h0 := (hin (X := X) (k := 54) (by decide) (by decide)).trans d0
      have d1 := hd 12 (by kernel_rfl)
      rw [e12, g12] at d1
      have h1 := (hin (X := X) (k := 51) (by decide) (by decide)).trans d1
      rw [t2] at hTm
      obtain ⟨hf, hbx⟩ := hTm
      obtain ⟨zz, q0⟩ : ∃ zz, W.cell? ⟨ib, 5, none⟩ = some zz := by unfold InBox at hbx; simp [World.cell?, hbx]
      have q1 : W.frozen? ⟨ib, 5, none⟩ = false := m_frozR hbx
      refine op_skip (w' := W.setCell ⟨ib, 5, none⟩ (.slice mo mn mc)) ?_ ⟨_, rfl, by rw [e18]; trivial, ?_, by rw [hR]; trivial⟩
      · generalize (puts A X ds).eval = ρ at h0 h1 ⊢
        go_simp
      · rw [t3]
        exact ⟨hf.trans (Fr.setCell (S := fun k => k = ib) W ⟨ib, 5, none⟩ _ rfl) (fun _ _ h => h), set_heap hbx _ _⟩
  · intro X W hall hTm
    have r0 := hall 0 (by decide)
    rw [e0, g0] at r0
    have r1 := hall 1 (by decide)
    rw [e1, g1] at r1
    have r2 := hall 2 (by decide)
    rw [e2, g2] at r2
    have r3 := hall 3 (by decide)
    rw [e3, g3] at r3
    have r4 := hall 4 (by decide)
    rw [e4, g4] at r4
    have r5 := hall 5 (by decide)
    rw [e5, g5] at r5
    have r6 := hall 6 (by decide)
    rw [e6, g6] at r6
    have r7 := hall 7 (by decide)
    rw [e7, g7] at r7
    have r8 := hall 8 (by decide)
    rw [e8, g8] at r8
    have r9 := hall 9 (by decide)
    rw [e9, g9] at r9
    have r10 := hall 10 (by decide)
    rw [e10, g10] at r10
    have r11 := hall 11 (by decide)
    rw [e11, g11] at r11
    have r12 := hall 12 (by decide)
    rw [e12, g12] at r12
    have r13 := hall 13 (by decide)
    rw [e13, g13] at r13
    have r15 := hall 15 (by decide)
    rw [e15, g15] at r15
    have r17 := hall 17 (by decide)
    rw [e17, g17] at r17
    rw [t3] at hTm
    have := HK X W hTm
    rw [hds] at this
    exact this
end Go.Proofs.YtnhijofnhflklaaGreat
end

section
/- Region 9 of turn: whether the vertex halted is laid. -/
namespace Go.Proofs.YtnhijofnhflklaaGreat
open Go.RowKit
set_option maxRecDepth 100000 in
set_option maxHeartbeats 2000000 in
theorem turn_r9 {W0 : World} {A : Act} {p rb off ob : Nat} {id : Int} {c : Bool} {TQ : World → Prop} {Q : Exit → Act → World → Prop} (hsz : A.tmps.size = 75) (hA0 : A.eval (.tmp 0) = .pointer (some ⟨p, 0, none⟩)) (hA9 : A.eval (.tmp 9) = .pointer (some ⟨rb, off, none⟩)) (hA12 : A.eval (.tmp 12) = .pointer (some ⟨ob, 0, none⟩)) (hI : W0.cell? ⟨rb, off, none⟩ = some (.int .i64 id)) (hO : W0.cell? ⟨ob, 1, none⟩ = some (.bool c)) (hLay : ∀ W, Below W0.heap.size W0 W → Calls Tryz.prog 139 #[.pointer (some ⟨p, 0, none⟩), .int .i64 id, .bool c] W fun r w' => r = .returned (.tuple #[]) ∧ TQ w')
    (HK : ∀ X W, TQ W → Q .normal (puts A X [66, 67, 68, 69, 70, 71, 72, 73]) W) :
    Code.wp Tryz.prog ((Tryz.f84.body.bind (regionJ 9)).getD .skip) Q A W0 := by
  obtain ⟨ds, hds⟩ : ∃ ds, [66, 67, 68, 69, 70, 71, 72, 73] = ds := ⟨_, rfl⟩
  have hin : ∀ {X : Nat → Value} {k : Nat}, k ∈ [66, 67, 68, 69, 70, 71, 72, 73] → k < 75 → (puts A X ds).eval (.tmp k) = X k := fun hk hl => by rw [← hds]; exact eval_in hk (by rw [hsz]; exact hl)
  have hout : ∀ {X : Nat → Value} {k : Nat}, k ∉ [66, 67, 68, 69, 70, 71, 72, 73] → (puts A X ds).eval (.tmp k) = A.eval (.tmp k) := fun hk => by rw [← hds]; exact eval_out hk
  have g0 : ds.getD 0 0 = 66 := by rw [← hds]; rfl
  have g1 : ds.getD 1 0 = 67 := by rw [← hds]; rfl
  have g2 : ds.getD 2 0 = 68 := by rw [← hds]; rfl
  have g3 : ds.getD 3 0 = 69 := by rw [← hds]; rfl
  have g4 : ds.getD 4 0 = 70 := by rw [← hds]; rfl
  have g5 : ds.getD 5 0 = 71 := by rw [← hds]; rfl
  have g6 : ds.getD 6 0 = 72 := by rw [← hds]; rfl
  have g7 : ds.getD 7 0 = 73 := by rw [← hds]; rfl
  obtain ⟨R, hR⟩ : ∃ R : World → World → Prop, ∀ W W', R W W' = (True) := ⟨fun W W' => True, fun _ _ => rfl⟩
  obtain ⟨V, hV, e0, e1, e2, e3, e4, e5, e6, e7⟩ : ∃ V : Nat → Value → World → Prop, (∀ i v W W', V i v W → R W W' → V i v W') ∧ (∀ v W, V 0 v W = (v = .pointer (some ⟨p, 0, none⟩))) ∧ (∀ v W, V 1 v W = (v = .pointer (some ⟨rb, off, none⟩))) ∧ (∀ v W, V 2 v W = (v = .pointer (some ⟨rb, off, none⟩))) ∧ (∀ v W, V 3 v W = (v = .pointer (some ⟨rb, off, none⟩))) ∧ (∀ v W, V 4 v W = (v = .int .i64 id)) ∧ (∀ v W, V 5 v W = (v = .pointer (some ⟨ob, 1, none⟩))) ∧ (∀ v W, V 6 v W = (v = .bool c)) ∧ (∀ v W, V 7 v W = (True)) := by
    refine ⟨fun i v W => match i with
      | 0 => v = .pointer (some ⟨p, 0, none⟩)
      | 1 => v = .pointer (some ⟨rb, off, none⟩)
      | 2 => v = .pointer (some ⟨rb, off, none⟩)
      | 3 => v = .pointer (some ⟨rb, off, none⟩)
      | 4 => v = .int .i64 id
      | 5 => v = .pointer (some ⟨ob, 1, none⟩)
      | 6 => v = .bool c
      | 7 => True
      | _ => True, ?_, fun _ _ => rfl, fun _ _ => rfl, fun _ _ => rfl, fun _ _ => rfl, fun _ _ => rfl, fun _ _ => rfl, fun _ _ => rfl, fun _ _ => rfl⟩
    intro i v W W' h hb
    rw [hR] at hb
    match i, h with
    | 0, h => exact h
    | 1, h => exact h
    | 2, h => exact h
    | 3, h => exact h
    | 4, h => exact h
    | 5, h => exact h
    | 6, h => exact h
    | 7, h => exact h
    | _ + 8, _ => trivial
  obtain ⟨T, hTC, hTS, t0, t1⟩ : ∃ T : Nat → (Nat → Value) → World → Prop, (∀ m X W, T m X W → (True)) ∧ (∀ m X X' W, (∀ i, i < 8 → ([none, none, none, none, none, none, none, some 0] : List (Option Nat)).getD i none ≠ none → X (ds.getD i 0) = X' (ds.getD i 0)) → T m X W → T m X' W) ∧ (∀ X W, T 0 X W = (Below W0.heap.size W0 W)) ∧ (∀ X W, T 1 X W = (TQ W)) := by
    refine ⟨fun m X W => match m with
      | 0 => Below W0.heap.size W0 W
      | 1 => TQ W
      | _ => False, ?_, ?_, fun _ _ => rfl, fun _ _ => rfl⟩
    · intro m X W h
      match m, h with
      | 0, h => exact trivial
      | 1, h => exact trivial
    · intro m X X' W he h
      match m, h with
      | 0, h => exact h
      | 1, h => exact h
  conv => arg 2; whnf
  refine wp_region_T ds [none, none, none, none, none, none, none, some 0] 1 V T R (by kernel_rfl) (by kernel_rfl) (by rw [hsz]; decide) (by rw [← hds]; kernel_rfl) (by kernel_rfl) hV hTS ?_ ?_ ?_
  · rw [t0]; exact below_drewN _ 1
  · refine ⟨⟨?_, ?_⟩, ⟨?_, ?_⟩, ⟨?_, ?_⟩, ⟨?_, ?_⟩, ⟨?_, ?_⟩, ⟨?_, ?_⟩, ⟨?_, ?_⟩, ⟨?_, ?_⟩, trivial⟩
    · intro _ X W m hTm hw hd hu
      have hC := hTC _ _ _ hTm
      have h0 := hout (X := X) (k := 0) (by decide)
      rw [hA0] at h0
      refine op_value (v := .pointer (some ⟨p, 0, none⟩)) (w' := W) ?_ ⟨_, rfl, by rw [e0], hTm, by rw [hR]; trivial⟩
      generalize (puts A X ds).eval = ρ at h0 ⊢
      go_simp
    · intro m h; have h' : (none : Option Nat) = some m := h; cases h'
    · intro _ X W m hTm hw hd hu
      have hC := hTC _ _ _ hTm
      have h0 := hout (X := X) (k := 9) (by decide)
      rw [hA9] at h0
      refine op_value (v := .pointer (some ⟨rb, off, none⟩)) (w' := W) ?_ ⟨_, rfl, by rw [e1], hTm, by rw [hR]; trivial⟩
      generalize (puts A X ds).eval = ρ at h0 ⊢
      go_simp
    · intro m h; have h' : (none : Option Nat) = some m := h; cases h'
    · intro _ X W m hTm hw hd hu
      have hC := hTC _ _ _ hTm
      have d0 := hd 1 (by kernel_rfl)
      rw [e1, g1] at d0
      have h0 := (hin (X := X) (k := 67) (by decide) (by decide)).trans d0
      refine op_value (v := .pointer (some ⟨rb, off, none⟩)) (w' := W) ?_ ⟨_, rfl, by rw [e2], hTm, by rw [hR]; trivial⟩
      generalize (puts A X ds).eval = ρ at h0 ⊢
      go_simp
    · intro m h; have h' : (none : Option Nat) = some m := h; cases h'
    · intro _ X W m hTm hw hd hu
      have hC := hTC _ _ _ hTm
      have d0 := hd 2 (by kernel_rfl)
      rw [e2, g2] at d0
      have h0 := (hin (X := X) (k := 68) (by decide) (by decide)).trans d0
      refine op_value (v := .pointer (some ⟨rb, off, none⟩)) (w' := W) ?_ ⟨_, rfl, by rw [e3], hTm, by rw [hR]; trivial⟩
      generalize (puts A X ds).eval = ρ at h0 ⊢
      go_simp
    · intro m h; have h' : (none : Option Nat) = some m := h; cases h'
    · intro _ X W m hTm hw hd hu
      have hC := hTC _ _ _ hTm
      have d0 := hd 3 (by kernel_rfl)
      rw [e3, g3] at d0
      have h0 := (hin (X := X) (k := 69) (by decide) (by decide)).trans d0
      have hz := hw 7 0 (by decide) rfl (by kernel_rfl)
      obtain rfl : m = 0 := by omega
      have hT0 := hTm
      rw [t0] at hT0
      have c0 := (hT0.cell (p := ⟨rb, off, none⟩) (lt_cell hI)).trans hI
      refine op_value (v := .int .i64 id) (w' := W) ?_ ⟨_, rfl, by rw [e4], hTm, by rw [hR]; trivial⟩
      generalize (puts A X ds).eval = ρ at h0 ⊢
      go_simp
    · intro m h; have h' : (none : Option Nat) = some m := h; cases h'
    · intro _ X W m hTm hw hd hu
      have hC := hTC _ _ _ hTm
      have h0 := hout (X := X) (k := 12) (by decide)
      rw [hA12] at h0
      refine op_value (v := .pointer (some ⟨ob, 1, none⟩)) (w' := W) ?_ ⟨_, rfl, by rw [e5], hTm, by rw [hR]; trivial⟩
      generalize (puts A X ds).eval = ρ at h0 ⊢
      go_simp
    · intro m h; have h' : (none : Option Nat) = some m := h; cases h'
    · intro _ X W m hTm hw hd hu
      have hC := hTC _ _ _ hTm
      have d0 := hd 5 (by kernel_rfl)
      rw [e5, g5] at d0
      have h0 := (hin (X := X) (k := 71) (by decide) (by decide)).trans d0
      have hz := hw 7 0 (by decide) rfl (by kernel_rfl)
      obtain rfl : m = 0 := by omega
      have hT0 := hTm
      rw [t0] at hT0
      have c0 := (hT0.cell (p := ⟨ob, 1, none⟩) (lt_cell hO)).trans hO
      refine op_value (v := .bool c) (w' := W) ?_ ⟨_, rfl, by rw [e6], hTm, by rw [hR]; trivial⟩
      generalize (puts A X ds).eval = ρ at h0 ⊢
      go_simp
    · intro m h; have h' : (none : Option Nat) = some m := h; cases h'
    · intro h; have h' : (some 0 : Option Nat) = none := h; cases h'
    · intro m hm0 X W hTm hd hu
      have hm1 : some 0 = some m := hm0
      cases hm1
      have hC := hTC _ _ _ hTm
      have d0 := hd 0 (by kernel_rfl)
      rw [e0, g0] at d0
      have h0 := (hin (X := X) (k := 66) (by decide) (by decide)).trans d0
      have d1 := hd 4 (by kernel_rfl)
      rw [e4, g4] at d1
      have h1 := (hin (X := X) (k := 70) (by decide) (by decide)).trans d1
      have d2 := hd 6 (by kernel_rfl)
      rw [e6, g6] at d2
      have h2 := (hin (X := X) (k := 72) (by decide) (by decide)).trans d2
      have hf : (puts A X ds).eval (.func 139) = .func (.func 139) #[] #[] := rfl
      rw [t0] at hTm
      refine op_call (f := 139) (vs := #[.pointer (some ⟨p, 0, none⟩), .int .i64 id, .bool c]) ?_ ?_
      · generalize (puts A X ds).eval = ρ at h0 h1 h2 hf ⊢
        go_simp
      · refine (hLay W hTm).mono ?_
        rintro r W' ⟨rfl, hq⟩
        exact ⟨_, rfl, _, rfl, by rw [e7]; trivial, by rw [t1]; exact hq, by rw [hR]; trivial⟩
  · intro X W hall hTm
    have r0 := hall 0 (by decide)
    rw [e0, g0] at r0
    have r1 := hall 1 (by decide)
    rw [e1, g1] at r1
    have r2 := hall 2 (by decide)
    rw [e2, g2] at r2
    have r3 := hall 3 (by decide)
    rw [e3, g3] at r3
    have r4 := hall 4 (by decide)
    rw [e4, g4] at r4
    have r5 := hall 5 (by decide)
    rw [e5, g5] at r5
    have r6 := hall 6 (by decide)
    rw [e6, g6] at r6
    rw [t1] at hTm
    have := HK X W hTm
    rw [hds] at this
    exact this
end Go.Proofs.YtnhijofnhflklaaGreat
end

section
/- slices.SortStableFunc over places whose vertices' numbers rise: nothing is moved. -/
namespace Go.Proofs.YtnhijofnhflklaaGreat
open Go.RowKit
/-- What the function that compares two places tells, in one world. -/
structure CmpAt (w : World) (lb : Value) (n : Nat) (K : Nat → Nat → Int) : Prop where
  call : ∀ (m i j : Nat), i < n → j < n → Calls Tryz.prog 133 #[.int .i64 i, .int .i64 j, lb] (w.drewN m) fun r w' => r = .returned (.int .i64 (K i j)) ∧ ∃ m', w' = (w.drewN m).drewN m'
  le : ∀ i j, j ≤ i → i < n → ¬ K i j < 0
/-- Places in a row. -/
def PlAt (w : World) (b n : Nat) : Prop := ∀ q, q < n → w.cell? ⟨b, q, none⟩ = some (.int .i64 q)
set_option maxRecDepth 100000 in
set_option maxHeartbeats 1000000 in
theorem by1_any {w : World} {P : Nat → Prop} {ao : Option Addr} {G : List Vx} {cap lb : Nat} (hL : w.cell? ⟨lb, 0, none⟩ = some (.slice ao G.length cap)) (h : VxAt w P ao G) (hl : G.length ≤ 1073741824) (i j : Nat) (hi : i < G.length) (hj : j < G.length) :
    Calls Tryz.prog 133 #[.int .i64 i, .int .i64 j, .pointer (some ⟨lb, 0, none⟩)] w fun r w' => r = .returned (.int .i64 (cmpI G[i].id G[j].id)) ∧ ∃ m, w' = w.drewN m := by
  obtain ⟨b, off, rfl, hP, hc⟩ := h (by omega)
  obtain ⟨_, _, c0, -⟩ := hc i hi
  obtain ⟨_, _, d0, -⟩ := hc j hj
  generalize G[i].id = x at c0
  generalize G[j].id = y at d0
  have hi' : (i : Int) < (G.length : Int) := by omega
  have hj' : (j : Int) < (G.length : Int) := by omega
  clear hc hi hj h
  generalize G.length = n at *
  go_enter Tryz.func133, Tryz.ntmps133
  go_wp2
  go_quiet (first | (go_at_call 134; exact Calls.quiet_of_same (compare_any _ _ _)))
  go_wp2
  go_ret
  exact ⟨rfl, _, rfl⟩
theorem CmpAt.drewN {w : World} {lb : Value} {n : Nat} {K : Nat → Nat → Int} (h : CmpAt w lb n K) (q : Nat) : CmpAt (w.drewN q) lb n K := ⟨fun m i j hi hj => by rw [World.drewN_drewN]; exact h.call _ i j hi hj, h.le⟩
set_option maxRecDepth 100000 in
set_option maxHeartbeats 1000000 in
theorem insS_any {w : World} {lb : Value} {D n cap : Nat} {K : Nat → Nat → Int} (hD : PlAt w D n) (hC : CmpAt w lb n K) (hn : n ≤ 1073741824) (a b : Nat) (hab : a ≤ b) (hb : b ≤ n) :
    Calls Tryz.prog 196 #[.slice (some ⟨D, 0, none⟩) n cap, .int .i64 a, .int .i64 b, .func (.func 133) #[] #[lb]] w fun r w' => r = .returned (.tuple #[]) ∧ ∃ m, w' = w.drewN m := by
  have HD : Hid (PlAt w D n) := hD
  have HC : Hid (CmpAt w lb n K) := hC
  clear hD hC
  go_enter Tryz.func196, Tryz.ntmps196
  go_wp2
  go_loopw [8] (fun u wr => ∃ (i m : Nat), a < i ∧ (i ≤ b ∨ i = a + 1) ∧ u = .int .i64 i ∧ wr = w.drewN m) (fun u _ => b + 1 - (intOf u).toNat)
  case atStart => exact ⟨a + 1, 0, by omega, .inr rfl, by go_num, rfl⟩
  case round =>
    obtain ⟨i, m, hi, hib, rfl, hw⟩ := hrel
    have HDr : Hid (PlAt wr D n) := by rw [hw]; exact HD.out
    have HCr : Hid (CmpAt wr lb n K) := by rw [hw]; exact HC.out.drewN m
    have HW : Hid _ := hw
    clear hw HD HC
    by_cases hlt : i < b
    · obtain ⟨i', rfl⟩ : ∃ i', i = i' + 1 := ⟨i - 1, by omega⟩
      have c0 := HDr.out (i' + 1) (by omega)
      have c1 := HDr.out i' (by omega)
      have hk := HCr.out.le (i' + 1) i' (by omega) (by omega)
      have HK : Hid (∀ m, Calls Tryz.prog 133 #[.int .i64 ((i' + 1 : Nat) : Int), .int .i64 i', lb] (wr.drewN m) fun r w' => r = .returned (.int .i64 (K (i' + 1) i')) ∧ ∃ m', w' = (wr.drewN m).drewN m') := fun m => HCr.out.call m (i' + 1) i' (by omega) (by omega)
      generalize K (i' + 1) i' = k at HK hk
      have hg : (a : Int) < (i' : Int) + 1 := by omega
      have hn1 : (i' : Int) + 1 < (n : Int) := by omega
      have hn2 : (i' : Int) < (n : Int) := by omega
      have hk0 : decide (k < 0) = false := by simpa using hk
      go_wp2
      refine wp_loop_rounds 1 ?_
      rw [rounds_succ]
      go_wp2
      go_quiet (first | (go_at_call 133; exact Calls.quiet_of (HK.out _)))
      go_wp2
      go_roundw
      case rel => exact ⟨i' + 2, _, by omega, by omega, by go_num, by rw [HW.out, World.drewN_drewN]⟩
      case measure => simp [intOf]; omega
    · go_wp2
      go_end0
      exact ⟨rfl, m, HW.out⟩
end Go.Proofs.YtnhijofnhflklaaGreat
end

section
/- slices.symMergeCmpFunc over places in order: nothing is moved. -/
namespace Go.Proofs.YtnhijofnhflklaaGreat
open Go.RowKit
def SymC (D n cap : Nat) (lb : Value) (K : Nat → Nat → Int) (d : Nat) : Prop := ∀ (a m b : Nat), b - a ≤ d → a < m → m < b → b ≤ n → ∀ w, PlAt w D n → CmpAt w lb n K →
    Calls Tryz.prog 197 #[.slice (some ⟨D, 0, none⟩) n cap, .int .i64 a, .int .i64 m, .int .i64 b, .func (.func 133) #[] #[lb]] w fun r w' => r = .returned (.tuple #[]) ∧ ∃ m, w' = w.drewN m
set_option maxRecDepth 100000 in
set_option maxHeartbeats 2000000 in
/-- One element ahead. -/
theorem sym_one {D n cap : Nat} {lb : Value} {K : Nat → Nat → Int} (hn : n ≤ 1073741824) (a m b : Nat) (hm : m = a + 1) (hmb : m < b) (hb : b ≤ n) (w : World) (hD : PlAt w D n) (hC : CmpAt w lb n K) :
    Calls Tryz.prog 197 #[.slice (some ⟨D, 0, none⟩) n cap, .int .i64 a, .int .i64 m, .int .i64 b, .func (.func 133) #[] #[lb]] w fun r w' => r = .returned (.tuple #[]) ∧ ∃ m, w' = w.drewN m := by
  have HD : Hid (PlAt w D n) := hD
  have HC : Hid (CmpAt w lb n K) := hC
  have HM : Hid _ := hm
  have h1 : (m : Int) - (a : Int) = 1 := by omega
  have h2 : decide ((a : Int) < (m : Int) - 1) = false := by simp; omega
  clear hD hC hm
  go_enter Tryz.func197, Tryz.ntmps197
  go_wp2
  go_loopw [10, 11, 12] (fun u v _ wr => ∃ (j q : Nat), m ≤ j ∧ j ≤ b ∧ u = .int .i64 m ∧ v = .int .i64 j ∧ wr = w.drewN q) (fun _ v _ _ => (intOf v).toNat)
  case atStart => exact ⟨b, 0, by omega, Nat.le_refl _, rfl, rfl, rfl⟩
  case round =>
    obtain ⟨j, q, hmj, hjb, rfl, rfl, hw⟩ := hrel
    have HDr : Hid (PlAt wr D n) := by rw [hw]; exact HD.out
    have HCr : Hid (CmpAt wr lb n K) := by rw [hw]; exact HC.out.drewN q
    have HW : Hid _ := hw
    clear hw HD HC
    by_cases hlt : m < j
    · obtain ⟨c, HM2⟩ : ∃ c : Nat, Hid (c = (m + j) / 2) := ⟨_, rfl⟩
      have hdv : ((m : Int) + (j : Int)) / 2 = c := by have := HM2.out; omega
      have hcm : m ≤ c := by have := HM2.out; omega
      have hcj : c < j := by have := HM2.out; omega
      have hcn : (c : Int) < (n : Int) := by omega
      have han : (a : Int) < (n : Int) := by have := HM.out; omega
      have c0 := HDr.out c (by omega)
      have c1 := HDr.out a (by omega)
      have hk := HCr.out.le c a (by have := HM.out; omega) (by omega)
      have HK : Hid (∀ m, Calls Tryz.prog 133 #[.int .i64 c, .int .i64 a, lb] (wr.drewN m) fun r w' => r = .returned (.int .i64 (K c a)) ∧ ∃ m', w' = (wr.drewN m).drewN m') := fun m => HCr.out.call m c a (by omega) (by omega)
      generalize K c a = k at HK hk
      have hk0 : decide (k < 0) = false := by simpa using hk
      go_wp2
      go_quiet (first | (go_at_call 133; exact Calls.quiet_of (HK.out _)))
      go_wp2
      go_roundw
      case rel => exact ⟨c, _, hcm, by omega, rfl, rfl, by rw [HW.out, World.drewN_drewN]⟩
      case measure => simp [intOf]; omega
    · go_wp2
      refine wp_loop_rounds 1 ?_
      rw [rounds_succ]
      go_wp2
      refine bodyPost_ret (v := .tuple #[]) (results_none Tryz.results197 _ _ _) rfl ?_
      exact ⟨rfl, q, HW.out⟩
set_option maxRecDepth 100000 in
set_option maxHeartbeats 2000000 in
/-- One element behind. -/
theorem sym_last {D n cap : Nat} {lb : Value} {K : Nat → Nat → Int} (hn : n ≤ 1073741824) (a m b : Nat) (hm : ¬ m = a + 1) (ham : a < m) (hmb : b = m + 1) (hb : b ≤ n) (w : World) (hD : PlAt w D n) (hC : CmpAt w lb n K) :
    Calls Tryz.prog 197 #[.slice (some ⟨D, 0, none⟩) n cap, .int .i64 a, .int .i64 m, .int .i64 b, .func (.func 133) #[] #[lb]] w fun r w' => r = .returned (.tuple #[]) ∧ ∃ m, w' = w.drewN m := by
  have HD : Hid (PlAt w D n) := hD
  have HC : Hid (CmpAt w lb n K) := hC
  have HM : Hid _ := hmb
  have h1 : ((m : Int) - (a : Int) == 1) = false := by simp; omega
  have h2 : (b : Int) - (m : Int) = 1 := by omega
  clear hD hC hm hmb
  go_enter Tryz.func197, Tryz.ntmps197
  go_wp2
  go_loopw [14, 15, 16] (fun u v _ wr => ∃ (j q : Nat), a ≤ j ∧ j ≤ m ∧ u = .int .i64 j ∧ v = .int .i64 m ∧ wr = w.drewN q) (fun u _ _ _ => m - (intOf u).toNat)
  case atStart => exact ⟨a, 0, Nat.le_refl _, by omega, rfl, rfl, rfl⟩
  case round =>
    obtain ⟨j, q, haj, hjm, rfl, rfl, hw⟩ := hrel
    have HDr : Hid (PlAt wr D n) := by rw [hw]; exact HD.out
    have HCr : Hid (CmpAt wr lb n K) := by rw [hw]; exact HC.out.drewN q
    have HW : Hid _ := hw
    clear hw HD HC
    by_cases hlt : j < m
    · obtain ⟨c, HM2⟩ : ∃ c : Nat, Hid (c = (j + m) / 2) := ⟨_, rfl⟩
      have hdv : ((j : Int) + (m : Int)) / 2 = c := by have := HM2.out; omega
      have hcm : c < m := by have := HM2.out; omega
      have hcj : j ≤ c := by have := HM2.out; omega
      have hcn : (c : Int) < (n : Int) := by have := HM.out; omega
      have hmn : (m : Int) < (n : Int) := by have := HM.out; omega
      have c0 := HDr.out c (by omega)
      have c1 := HDr.out m (by omega)
      have hk := HCr.out.le m c (by omega) (by omega)
      have HK : Hid (∀ q, Calls Tryz.prog 133 #[.int .i64 m, .int .i64 c, lb] (wr.drewN q) fun r w' => r = .returned (.int .i64 (K m c)) ∧ ∃ m', w' = (wr.drewN q).drewN m') := fun q => HCr.out.call q m c (by omega) (by omega)
      generalize K m c = k at HK hk
      have hk0 : decide (k < 0) = false := by simpa using hk
      go_wp2
      go_quiet (first | (go_at_call 133; exact Calls.quiet_of (HK.out _)))
      go_wp2
      go_roundw
      case rel => exact ⟨c + 1, _, by omega, by omega, by go_num, rfl, by rw [HW.out, World.drewN_drewN]⟩
      case measure => simp [intOf]; omega
    · obtain rfl : j = m := by omega
      go_wp2
      refine wp_loop_rounds 1 ?_
      rw [rounds_succ]
      go_wp2
      refine bodyPost_ret (v := .tuple #[]) (results_none Tryz.results197 _ _ _) rfl ?_
      exact ⟨rfl, q, HW.out⟩
set_option maxRecDepth 100000 in
set_option maxHeartbeats 4000000 in
/-- The middle lies ahead of m. -/
theorem sym_hi {D n cap : Nat} {lb : Value} {K : Nat → Nat → Int} (hn : n ≤ 1073741824) (d a m b : Nat) (ih : SymC D n cap lb K d) (hd : b - a ≤ d + 1) (hm1 : a + 2 ≤ m) (hm2 : m + 2 ≤ b) (hb : b ≤ n) (mid : Nat) (hmid : mid = (a + b) / 2) (hlt : mid < m) (w : World) (hD : PlAt w D n) (hC : CmpAt w lb n K) :
    Calls Tryz.prog 197 #[.slice (some ⟨D, 0, none⟩) n cap, .int .i64 a, .int .i64 m, .int .i64 b, .func (.func 133) #[] #[lb]] w fun r w' => r = .returned (.tuple #[]) ∧ ∃ m, w' = w.drewN m := by
  have HD : Hid (PlAt w D n) := hD
  have HC : Hid (CmpAt w lb n K) := hC
  have HI : Hid (∀ w, PlAt w D n → CmpAt w lb n K → Calls Tryz.prog 197 #[.slice (some ⟨D, 0, none⟩) n cap, .int .i64 mid, .int .i64 m, .int .i64 b, .func (.func 133) #[] #[lb]] w fun r w' => r = .returned (.tuple #[]) ∧ ∃ m, w' = w.drewN m) := fun w h1 h2 => ih mid m b (by omega) (by omega) (by omega) hb w h1 h2
  have h1 : ((m : Int) - (a : Int) == 1) = false := by simp; omega
  have h2 : ((b : Int) - (m : Int) == 1) = false := by simp; omega
  have hdv : ((a : Int) + (b : Int)) / 2 = mid := by omega
  obtain ⟨st, HS⟩ : ∃ st : Nat, Hid (st + b = mid + m) := ⟨mid + m - b, by show _ = _; omega⟩
  have hst : (mid : Int) + (m : Int) - (b : Int) = st := by have := HS.out; omega
  have hsm : st ≤ mid := by have := HS.out; omega
  have hab : a < mid := by omega
  have hmb : mid < b := by omega
  have e1 : (mid : Int) + (m : Int) - (mid : Int) = m := by omega
  clear hD hC ih hmid
  go_enter Tryz.func197, Tryz.ntmps197
  go_wp2
  go_loopw [20, 21, 23] (fun u v _ wr => ∃ (j q : Nat), st ≤ j ∧ j ≤ mid ∧ u = .int .i64 j ∧ v = .int .i64 mid ∧ wr = w.drewN q) (fun u _ _ _ => mid - (intOf u).toNat)
  case atStart => exact ⟨st, 0, Nat.le_refl _, hsm, rfl, rfl, rfl⟩
  case round =>
    obtain ⟨j, q, haj, hjm, rfl, rfl, hw⟩ := hrel
    have HDr : Hid (PlAt wr D n) := by rw [hw]; exact HD.out
    have HCr : Hid (CmpAt wr lb n K) := by rw [hw]; exact HC.out.drewN q
    have HW : Hid _ := hw
    clear hw HD HC
    by_cases hlt : j < mid
    · obtain ⟨c, HM2⟩ : ∃ c : Nat, Hid (c = (j + mid) / 2) := ⟨_, rfl⟩
      have hdv2 : ((j : Int) + (mid : Int)) / 2 = c := by have := HM2.out; omega
      have hcm : c < mid := by have := HM2.out; omega
      have hcj : j ≤ c := by have := HM2.out; omega
      obtain ⟨p, HP⟩ : ∃ p : Nat, Hid (p + c + 1 = mid + m) := ⟨mid + m - 1 - c, by show _ = _; omega⟩
      have hp : (mid : Int) + (m : Int) - 1 - (c : Int) = p := by have := HP.out; omega
      have hpb : p < b := by have := HP.out; have := HS.out; omega
      have hpc : c ≤ p := by have := HP.out; omega
      have hcn : (c : Int) < (n : Int) := by omega
      have hpn : (p : Int) < (n : Int) := by omega
      have c0 := HDr.out c (by omega)
      have c1 := HDr.out p (by omega)
      have hk := HCr.out.le p c (by omega) (by omega)
      have HK : Hid (∀ q, Calls Tryz.prog 133 #[.int .i64 p, .int .i64 c, lb] (wr.drewN q) fun r w' => r = .returned (.int .i64 (K p c)) ∧ ∃ m', w' = (wr.drewN q).drewN m') := fun q => HCr.out.call q p c (by omega) (by omega)
      generalize K p c = k at HK hk
      have hk0 : decide (k < 0) = false := by simpa using hk
      go_wp2
      go_quiet (first | (go_at_call 133; exact Calls.quiet_of (HK.out _)))
      go_wp2
      go_roundw
      case rel => exact ⟨c + 1, _, by omega, by omega, by go_num, rfl, by rw [HW.out, World.drewN_drewN]⟩
      case measure => simp [intOf]; omega
    · obtain rfl : j = mid := by omega
      go_wp2_with (go_at_call 197; refine (HI.out _ HDr.out HCr.out).mono ?_; rintro r w1 ⟨rfl, q1, rfl⟩)
      go_end0
      exact ⟨rfl, _, by rw [HW.out, World.drewN_drewN]⟩
set_option maxRecDepth 100000 in
set_option maxHeartbeats 4000000 in
/-- The middle lies at m or behind it. -/
theorem sym_lo {D n cap : Nat} {lb : Value} {K : Nat → Nat → Int} (hn : n ≤ 1073741824) (d a m b : Nat) (ih : SymC D n cap lb K d) (hd : b - a ≤ d + 1) (hm1 : a + 2 ≤ m) (hm2 : m + 2 ≤ b) (hb : b ≤ n) (mid : Nat) (hmid : mid = (a + b) / 2) (hlt : m ≤ mid) (w : World) (hD : PlAt w D n) (hC : CmpAt w lb n K) :
    Calls Tryz.prog 197 #[.slice (some ⟨D, 0, none⟩) n cap, .int .i64 a, .int .i64 m, .int .i64 b, .func (.func 133) #[] #[lb]] w fun r w' => r = .returned (.tuple #[]) ∧ ∃ m, w' = w.drewN m := by
  have HD : Hid (PlAt w D n) := hD
  have HC : Hid (CmpAt w lb n K) := hC
  have HI : Hid (m < mid → ∀ w, PlAt w D n → CmpAt w lb n K → Calls Tryz.prog 197 #[.slice (some ⟨D, 0, none⟩) n cap, .int .i64 a, .int .i64 m, .int .i64 mid, .func (.func 133) #[] #[lb]] w fun r w' => r = .returned (.tuple #[]) ∧ ∃ m, w' = w.drewN m) := fun h0 w h1 h2 => ih a m mid (by omega) (by omega) (by omega) (by omega) w h1 h2
  have h1 : ((m : Int) - (a : Int) == 1) = false := by simp; omega
  have h2 : ((b : Int) - (m : Int) == 1) = false := by simp; omega
  have hdv : ((a : Int) + (b : Int)) / 2 = mid := by omega
  have hab : a < mid := by omega
  have hmb : mid < b := by omega
  have e1 : (mid : Int) + (m : Int) - (m : Int) = mid := by omega
  have h3 : ¬ mid < m := by omega
  have h4 : decide (mid < m) = false := by simp; omega
  have HMd : Hid (mid + mid ≤ a + b) := by show _ ≤ _; omega
  clear hD hC ih hmid
  go_enter Tryz.func197, Tryz.ntmps197
  go_wp2
  go_loopw [20, 21, 23] (fun u v _ wr => ∃ (j q : Nat), a ≤ j ∧ j ≤ m ∧ u = .int .i64 j ∧ v = .int .i64 m ∧ wr = w.drewN q) (fun u _ _ _ => m - (intOf u).toNat)
  case atStart => exact ⟨a, 0, Nat.le_refl _, by omega, rfl, rfl, rfl⟩
  case round =>
    obtain ⟨j, q, haj, hjm, rfl, rfl, hw⟩ := hrel
    have HDr : Hid (PlAt wr D n) := by rw [hw]; exact HD.out
    have HCr : Hid (CmpAt wr lb n K) := by rw [hw]; exact HC.out.drewN q
    have HW : Hid _ := hw
    clear hw HD HC
    by_cases hjlt : j < m
    · obtain ⟨c, HM2⟩ : ∃ c : Nat, Hid (c = (j + m) / 2) := ⟨_, rfl⟩
      have hdv2 : ((j : Int) + (m : Int)) / 2 = c := by have := HM2.out; omega
      have hcm : c < m := by have := HM2.out; omega
      have hcj : j ≤ c := by have := HM2.out; omega
      obtain ⟨p, HP⟩ : ∃ p : Nat, Hid (p + c + 1 = mid + m) := ⟨mid + m - 1 - c, by show _ = _; omega⟩
      have hp : (mid : Int) + (m : Int) - 1 - (c : Int) = p := by have := HP.out; omega
      have hpb : p < b := by have := HP.out; have := HMd.out; omega
      have hpc : c ≤ p := by have := HP.out; omega
      have hcn : (c : Int) < (n : Int) := by omega
      have hpn : (p : Int) < (n : Int) := by omega
      have c0 := HDr.out c (by omega)
      have c1 := HDr.out p (by omega)
      have hk := HCr.out.le p c (by omega) (by omega)
      have HK : Hid (∀ q, Calls Tryz.prog 133 #[.int .i64 p, .int .i64 c, lb] (wr.drewN q) fun r w' => r = .returned (.int .i64 (K p c)) ∧ ∃ m', w' = (wr.drewN q).drewN m') := fun q => HCr.out.call q p c (by omega) (by omega)
      generalize K p c = k at HK hk
      have hk0 : decide (k < 0) = false := by simpa using hk
      go_wp2
      go_quiet (first | (go_at_call 133; exact Calls.quiet_of (HK.out _)))
      go_wp2
      go_roundw
      case rel => exact ⟨c + 1, _, by omega, by omega, by go_num, rfl, by rw [HW.out, World.drewN_drewN]⟩
      case measure => simp [intOf]; omega
    · obtain rfl : j = m := by omega
      by_cases hj : j < mid
      · have HI' : Hid _ := HI.out hj
        go_wp2_with (go_at_call 197; refine (HI'.out _ HDr.out HCr.out).mono ?_; rintro r w1 ⟨rfl, q1, rfl⟩)
        go_end0
        exact ⟨rfl, _, by rw [HW.out, World.drewN_drewN]⟩
      · have e2 : decide ((j : Int) < (mid : Int)) = false := by simp; omega
        go_wp2
        go_end0
        exact ⟨rfl, q, HW.out⟩
/-- Of places in order nothing is moved. -/
theorem sym_any {D n cap : Nat} {lb : Value} {K : Nat → Nat → Int} (hn : n ≤ 1073741824) : ∀ d, SymC D n cap lb K d
  | 0 => fun a m b h1 h2 h3 _ _ _ _ => by omega
  | d + 1 => fun a m b h1 h2 h3 hb w hD hC => by
    by_cases e1 : m = a + 1
    · exact sym_one hn a m b e1 h3 hb w hD hC
    · by_cases e2 : b = m + 1
      · exact sym_last hn a m b e1 h2 e2 hb w hD hC
      · by_cases e3 : (a + b) / 2 < m
        · exact sym_hi hn d a m b (sym_any hn d) h1 (by omega) (by omega) hb _ rfl e3 w hD hC
        · exact sym_lo hn d a m b (sym_any hn d) h1 (by omega) (by omega) hb _ rfl (by omega) w hD hC
end Go.Proofs.YtnhijofnhflklaaGreat
end
