/- Region 1 of Is: both sides in boxes of their own. -/
import Derived.Test.YtepdpafpjiaaeaaKnData
import Derived.Test.YtepdpafpjiaaeaaRegB
import Derived.Deep.MidRow
namespace Go.Proofs.Ytepdpafpjiaaeaa
open Go.RowKit
theorem size_ref : (Try.prog.info? 59).map (·.size) = some 15 := by kernel_rfl
set_option maxRecDepth 100000 in
set_option maxHeartbeats 1000000 in
theorem is_r1 {W0 : World} {A : Act} {bx : Nat} {K : Act → World → Prop} {Q' : Exit → Act → World → Prop} (hsz : A.tmps.size = 118) (hA1 : A.eval (.tmp 1) = .pointer (some ⟨bx, 0, none⟩)) (hB : W0.heap[bx]? = some (.cells #[.int .i64 0, .bool false, .slice none 0 0, .slice none 0 0, .bool false, .bool false, .bool false, .bool false, .bool false, .int .i64 0, .int .i64 0, .int .i64 0, .int .i64 0, .int .i64 0, .int .i64 70, .int .i64 0, .bool false, .slice none 0 0, .slice none 0 0, .bool false, .bool false, .bool false, .bool false, .bool false, .int .i64 0, .int .i64 0, .int .i64 0, .int .i64 0, .int .i64 0, .int .i64 70] 61 (0, 0)))
    (HK : ∀ X W, Below W0.heap.size W0 W → (∃ e, BoxAt W0 W (X 3) 52 15 e #[.int .i64 0, .bool false, .slice none 0 0, .slice none 0 0, .bool false, .bool false, .bool false, .bool false, .bool false, .int .i64 0, .int .i64 0, .int .i64 0, .int .i64 0, .int .i64 0, .int .i64 70]) ∧ (∃ e, BoxAt W0 W (X 4) 59 15 e #[.int .i64 0, .bool false, .slice none 0 0, .slice none 0 0, .bool false, .bool false, .bool false, .bool false, .bool false, .int .i64 0, .int .i64 0, .int .i64 0, .int .i64 0, .int .i64 0, .int .i64 70]) → K (puts A X [9, 10, 11, 12, 3, 4]) W) :
    Code.wp Try.prog ((Try.f22.body.bind (regionJ 1)).getD .skip) (Exit.then K Q') A W0 := by
  obtain ⟨ds, hds⟩ : ∃ ds, [9, 10, 11, 12, 3, 4] = ds := ⟨_, rfl⟩
  have hin : ∀ {X : Nat → Value} {k : Nat}, k ∈ [9, 10, 11, 12, 3, 4] → (puts A X ds).eval (.tmp k) = X k := fun hk => by rw [← hds]; exact eval_in hk (by rw [hsz]; revert hk; simp only [List.mem_cons, List.not_mem_nil, or_false]; omega)
  have hout : ∀ {X : Nat → Value} {k : Nat}, k ∉ [9, 10, 11, 12, 3, 4] → (puts A X ds).eval (.tmp k) = A.eval (.tmp k) := fun hk => by rw [← hds]; exact eval_out hk
  obtain ⟨V, hV, e0, e1, e2, e3⟩ : ∃ V : Nat → Value → World → Prop, (∀ i v W W', V i v W → Below W0.heap.size W W' → V i v W') ∧ (∀ v W, V 0 v W = (v = .pointer (some ⟨bx, 0, none⟩))) ∧ (∀ v W, V 1 v W = (v = .agg #[.int .i64 0, .bool false, .slice none 0 0, .slice none 0 0, .bool false, .bool false, .bool false, .bool false, .bool false, .int .i64 0, .int .i64 0, .int .i64 0, .int .i64 0, .int .i64 0, .int .i64 70])) ∧ (∀ v W, V 2 v W = (v = .pointer (some ⟨bx, 15, none⟩))) ∧ (∀ v W, V 3 v W = (v = .agg #[.int .i64 0, .bool false, .slice none 0 0, .slice none 0 0, .bool false, .bool false, .bool false, .bool false, .bool false, .int .i64 0, .int .i64 0, .int .i64 0, .int .i64 0, .int .i64 0, .int .i64 70])) := by
    refine ⟨fun i v W => match i with
      | 0 => v = .pointer (some ⟨bx, 0, none⟩)
      | 1 => v = .agg #[.int .i64 0, .bool false, .slice none 0 0, .slice none 0 0, .bool false, .bool false, .bool false, .bool false, .bool false, .int .i64 0, .int .i64 0, .int .i64 0, .int .i64 0, .int .i64 0, .int .i64 70]
      | 2 => v = .pointer (some ⟨bx, 15, none⟩)
      | 3 => v = .agg #[.int .i64 0, .bool false, .slice none 0 0, .slice none 0 0, .bool false, .bool false, .bool false, .bool false, .bool false, .int .i64 0, .int .i64 0, .int .i64 0, .int .i64 0, .int .i64 0, .int .i64 70]
      | _ => True, ?_, fun _ _ => rfl, fun _ _ => rfl, fun _ _ => rfl, fun _ _ => rfl⟩
    intro i v W W' h hb
    match i, h with
    | 0, h => exact h
    | 1, h => exact h
    | 2, h => exact h
    | 3, h => exact h
    | 4, h => exact h
    | 5, h => exact h
    | 6, h => exact h
    | 7, h => exact h
    | _ + 8, _ => trivial
  obtain ⟨pl, hpl⟩ : ∃ pl : BoxPlan, (⟨[0, 0, 0, 0, 1, 1, 2, 2], [9, 10, 11, 12, 3, 4, 0, 0], [0, 0, 0, 0, 0, 0, 4, 5]⟩ : BoxPlan) = pl := ⟨_, rfl⟩
  have k0 : pl.k 0 = 0 := by rw [← hpl]; rfl
  have s0 : pl.s 0 = 9 := by rw [← hpl]; rfl
  have k1 : pl.k 1 = 0 := by rw [← hpl]; rfl
  have s1 : pl.s 1 = 10 := by rw [← hpl]; rfl
  have k2 : pl.k 2 = 0 := by rw [← hpl]; rfl
  have s2 : pl.s 2 = 11 := by rw [← hpl]; rfl
  have k3 : pl.k 3 = 0 := by rw [← hpl]; rfl
  have s3 : pl.s 3 = 12 := by rw [← hpl]; rfl
  have k4 : pl.k 4 = 1 := by rw [← hpl]; rfl
  have s4 : pl.s 4 = 3 := by rw [← hpl]; rfl
  have k5 : pl.k 5 = 1 := by rw [← hpl]; rfl
  have s5 : pl.s 5 = 4 := by rw [← hpl]; rfl
  have k6 : pl.k 6 = 2 := by rw [← hpl]; rfl
  have t6 : pl.t 6 = 4 := by rw [← hpl]; rfl
  have k7 : pl.k 7 = 2 := by rw [← hpl]; rfl
  have t7 : pl.t 7 = 5 := by rw [← hpl]; rfl
  obtain ⟨bt, hbt⟩ : ∃ bt : Nat → TypeId, (fun i => if i = 4 then 52 else if i = 5 then 59 else 0) = bt := ⟨_, rfl⟩
  obtain ⟨bn, hbn⟩ : ∃ bn : Nat → Nat, (fun i => if i = 4 then 15 else if i = 5 then 15 else 0) = bn := ⟨_, rfl⟩
  obtain ⟨bc, hbc⟩ : ∃ bc : Nat → Array Value, (fun i => if i = 6 then #[.int .i64 0, .bool false, .slice none 0 0, .slice none 0 0, .bool false, .bool false, .bool false, .bool false, .bool false, .int .i64 0, .int .i64 0, .int .i64 0, .int .i64 0, .int .i64 0, .int .i64 70] else if i = 7 then #[.int .i64 0, .bool false, .slice none 0 0, .slice none 0 0, .bool false, .bool false, .bool false, .bool false, .bool false, .int .i64 0, .int .i64 0, .int .i64 0, .int .i64 0, .int .i64 0, .int .i64 70] else #[]) = bc := ⟨_, rfl⟩
  have bt4 : bt 4 = 52 := by rw [← hbt]; rfl
  have bn4 : bn 4 = 15 := by rw [← hbn]; rfl
  have bt5 : bt 5 = 59 := by rw [← hbt]; rfl
  have bn5 : bn 5 = 15 := by rw [← hbn]; rfl
  have bc6 : bc 6 = #[.int .i64 0, .bool false, .slice none 0 0, .slice none 0 0, .bool false, .bool false, .bool false, .bool false, .bool false, .int .i64 0, .int .i64 0, .int .i64 0, .int .i64 0, .int .i64 0, .int .i64 70] := by rw [← hbc]; rfl
  have bc7 : bc 7 = #[.int .i64 0, .bool false, .slice none 0 0, .slice none 0 0, .bool false, .bool false, .bool false, .bool false, .bool false, .int .i64 0, .int .i64 0, .int .i64 0, .int .i64 0, .int .i64 0, .int .i64 70] := by rw [← hbc]; rfl
  conv => arg 2; whnf
  refine wp_region_B ds pl V bt bn bc (by kernel_rfl) (by kernel_rfl) (by rw [← hds, ← hpl]; kernel_rfl) ?_ ?_ hV ?_ ?_
  · intro i
    rw [← hpl]
    match i with
    | 0 => decide
    | 1 => decide
    | 2 => decide
    | 3 => decide
    | 4 => decide
    | 5 => decide
    | 6 => decide
    | 7 => decide
    | _ + 8 => exact Nat.zero_le _
  · intro i hi
    match i, hi with
    | 0, hi => rw [k0] at hi; cases hi
    | 1, hi => rw [k1] at hi; cases hi
    | 2, hi => rw [k2] at hi; cases hi
    | 3, hi => rw [k3] at hi; cases hi
    | 4, hi => rw [k4] at hi; cases hi
    | 5, hi => rw [k5] at hi; cases hi
    | 6, _ => rw [bc6, t6, bn4]; rfl
    | 7, _ => rw [bc7, t7, bn5]; rfl
    | _ + 8, hi => rw [← hpl] at hi; cases hi
  · refine ⟨?_, ?_, ?_, ?_, ?_, ?_, ?_, ?_, trivial⟩
    all_goals intro X W hb hd
    · have h0 := hout (X := X) (k := 1) (by decide)
      rw [hA1] at h0
      refine ⟨fun _ => ?_, fun h => (by rw [k0] at h; cases h), fun h => (by rw [k0] at h; cases h)⟩
      refine v_value (V := V 0) (v := .pointer (some ⟨bx, 0, none⟩)) ?_ (by rw [e0])
      generalize (puts A X ds).eval = ρ at h0 ⊢
      go_simp
    · have d0 := hd 0 (by kernel_rfl) k0
      rw [e0, s0] at d0
      have h0 := (hin (X := X) (k := 9) (by decide)).trans d0
      refine ⟨fun _ => ?_, fun h => (by rw [k1] at h; cases h), fun h => (by rw [k1] at h; cases h)⟩
      exact wp_load_mid 52 _ rfl bx 0 h0 ([.int .i64 0, .bool false, .slice none 0 0, .slice none 0 0, .bool false, .bool false, .bool false, .bool false, .bool false, .int .i64 0, .int .i64 0, .int .i64 0, .int .i64 0, .int .i64 0, .int .i64 70] : List Value) _ (by simpa using World.rangeAt_of_block ((hb.block _ (Array.getElem?_eq_some_iff.1 hB).1).trans hB) 0 15) Try.underlying52 rfl (by first | exact size_out | exact size_ref) ⟨_, rfl, by rw [e1], Below.refl _ _⟩
    · have h0 := hout (X := X) (k := 1) (by decide)
      rw [hA1] at h0
      refine ⟨fun _ => ?_, fun h => (by rw [k2] at h; cases h), fun h => (by rw [k2] at h; cases h)⟩
      refine v_value (V := V 2) (v := .pointer (some ⟨bx, 15, none⟩)) ?_ (by rw [e2])
      generalize (puts A X ds).eval = ρ at h0 ⊢
      go_simp
    · have d0 := hd 2 (by kernel_rfl) k2
      rw [e2, s2] at d0
      have h0 := (hin (X := X) (k := 11) (by decide)).trans d0
      refine ⟨fun _ => ?_, fun h => (by rw [k3] at h; cases h), fun h => (by rw [k3] at h; cases h)⟩
      exact wp_load_mid 59 _ rfl bx 15 h0 ([.int .i64 0, .bool false, .slice none 0 0, .slice none 0 0, .bool false, .bool false, .bool false, .bool false, .bool false, .int .i64 0, .int .i64 0, .int .i64 0, .int .i64 0, .int .i64 0, .int .i64 70] : List Value) _ (by simpa using World.rangeAt_of_block ((hb.block _ (Array.getElem?_eq_some_iff.1 hB).1).trans hB) 15 15) Try.underlying59 rfl (by first | exact size_out | exact size_ref) ⟨_, rfl, by rw [e3], Below.refl _ _⟩
    · refine ⟨fun h => (by rw [k4] at h; cases h), fun _ => ?_, fun h => (by rw [k4] at h; cases h)⟩
      refine op_value (v := .pointer (some ⟨W.heap.size, 0, none⟩)) (w' := W.alloc (.cells #[.int .i64 0, .bool false, .slice none 0 0, .slice none 0 0, .bool false, .bool false, .bool false, .bool false, .bool false, .int .i64 0, .int .i64 0, .int .i64 0, .int .i64 0, .int .i64 0, .int .i64 0] 52)) ?_ ⟨#[.int .i64 0, .bool false, .slice none 0 0, .slice none 0 0, .bool false, .bool false, .bool false, .bool false, .bool false, .int .i64 0, .int .i64 0, .int .i64 0, .int .i64 0, .int .i64 0, .int .i64 0], rfl, by rw [bt4], by rw [bn4]; rfl⟩
      generalize (puts A X ds).eval = ρ
      go_simp
    · refine ⟨fun h => (by rw [k5] at h; cases h), fun _ => ?_, fun h => (by rw [k5] at h; cases h)⟩
      refine op_value (v := .pointer (some ⟨W.heap.size, 0, none⟩)) (w' := W.alloc (.cells #[.int .i64 0, .bool false, .slice none 0 0, .slice none 0 0, .bool false, .bool false, .bool false, .bool false, .bool false, .int .i64 0, .int .i64 0, .int .i64 0, .int .i64 0, .int .i64 0, .int .i64 0] 59)) ?_ ⟨#[.int .i64 0, .bool false, .slice none 0 0, .slice none 0 0, .bool false, .bool false, .bool false, .bool false, .bool false, .int .i64 0, .int .i64 0, .int .i64 0, .int .i64 0, .int .i64 0, .int .i64 0], rfl, by rw [bt5], by rw [bn5]; rfl⟩
      generalize (puts A X ds).eval = ρ
      go_simp
    · refine ⟨fun h => (by rw [k6] at h; cases h), fun h => (by rw [k6] at h; cases h), fun _ e c hbx => ?_⟩
      rw [t6, s4, bt4, bn4] at hbx
      obtain ⟨x1, x2, x3, x4⟩ := hbx
      have hx := (hin (X := X) (k := 3) (by decide)).trans x1
      have dv := hd 1 (by kernel_rfl) k1
      rw [e1, s1] at dv
      have hy := (hin (X := X) (k := 10) (by decide)).trans dv
      exact wp_store_row 52 _ _ rfl e #[.int .i64 0, .bool false, .slice none 0 0, .slice none 0 0, .bool false, .bool false, .bool false, .bool false, .bool false, .int .i64 0, .int .i64 0, .int .i64 0, .int .i64 0, .int .i64 0, .int .i64 70] hx hy 52 c x3 size_out (by rw [x4]; rfl) (by simp [Value.oneCell']) ⟨rfl, by rw [bc6]⟩
    · refine ⟨fun h => (by rw [k7] at h; cases h), fun h => (by rw [k7] at h; cases h), fun _ e c hbx => ?_⟩
      rw [t7, s5, bt5, bn5] at hbx
      obtain ⟨x1, x2, x3, x4⟩ := hbx
      have hx := (hin (X := X) (k := 4) (by decide)).trans x1
      have dv := hd 3 (by kernel_rfl) k3
      rw [e3, s3] at dv
      have hy := (hin (X := X) (k := 12) (by decide)).trans dv
      exact wp_store_row 59 _ _ rfl e #[.int .i64 0, .bool false, .slice none 0 0, .slice none 0 0, .bool false, .bool false, .bool false, .bool false, .bool false, .int .i64 0, .int .i64 0, .int .i64 0, .int .i64 0, .int .i64 0, .int .i64 70] hx hy 59 c x3 size_ref (by rw [x4]; rfl) (by simp [Value.oneCell']) ⟨rfl, by rw [bc7]⟩
  · intro X W hb hv hbx hap
    have r0 := hv 0 (by decide) k0
    rw [e0, s0] at r0
    have r1 := hv 1 (by decide) k1
    rw [e1, s1] at r1
    have r2 := hv 2 (by decide) k2
    rw [e2, s2] at r2
    have r3 := hv 3 (by decide) k3
    rw [e3, s3] at r3
    have b6 := hbx 6 (by decide) k6
    rw [t6, s4, bt4, bn4, bc6] at b6
    have b7 := hbx 7 (by decide) k7
    rw [t7, s5, bt5, bn5, bc7] at b7
    have n4_5 := hap 4 5 (by decide) (by decide) k4 k5 (by decide)
    rw [s4, s5] at n4_5
    have := HK X W hb ⟨b6, b7⟩
    rw [hds] at this
    exact this
end Go.Proofs.Ytepdpafpjiaaeaa
