/- The document's awake of layer 7: where ways begin. -/
import Derived.Test.YthnbmnpdjnjejaaKnAwake
import Derived.Test.YthnbmnpdjnjejaaRegV
namespace Go.Proofs.Ythnbmnpdjnjejaa
open Go.RowKit
set_option maxRecDepth 100000 in
set_option maxHeartbeats 1000000 in
theorem from_r1 {W0 : World} {A : Act} {st id va ma : Int} {eo mo po : Option Addr} {en ec mn mc pn pc : Nat} {ha u0 u1 u2 u3 u4 u5 u6 u7 u8 u9 : Value} {bx b off : Nat} {p : Int} {K : Act → World → Prop} {Q' : Exit → Act → World → Prop} (hsz : A.tmps.size = 15) (hA2 : A.eval (.tmp 2) = .pointer (some ⟨bx, 0, none⟩)) (hIn : InBox W0 bx #[.int .i64 st, .int .i64 id, .int .i64 va, .slice eo en ec, ha, .slice mo mn mc, u0, u1, u2, u3, u4, u5, u6, u7, u8, u9, .int .i64 ma, .slice po pn pc]) (hp : po = some ⟨b, off, none⟩) (hn : 0 < pn) (hc : W0.cell? ⟨b, off, none⟩ = some (.int .i64 p))
    (HK : ∀ X W, Below W0.heap.size W0 W → X 10 = .bool (id == p) → K (puts A X [5, 6, 7, 8, 9, 10]) W) :
    Code.wp Try.prog ((Try.f73.body.bind (regionJ 1)).getD .skip) (Exit.then K Q') A W0 := by
  obtain ⟨ds, hds⟩ : ∃ ds, [5, 6, 7, 8, 9, 10] = ds := ⟨_, rfl⟩
  have hin : ∀ {X : Nat → Value} {k : Nat}, k ∈ [5, 6, 7, 8, 9, 10] → (puts A X ds).eval (.tmp k) = X k := fun hk => by rw [← hds]; exact eval_in hk (by rw [hsz]; revert hk; simp only [List.mem_cons, List.not_mem_nil, or_false]; omega)
  have hout : ∀ {X : Nat → Value} {k : Nat}, k ∉ [5, 6, 7, 8, 9, 10] → (puts A X ds).eval (.tmp k) = A.eval (.tmp k) := fun hk => by rw [← hds]; exact eval_out hk
  have g0 : ds.getD 0 0 = 5 := by rw [← hds]; rfl
  have g1 : ds.getD 1 0 = 6 := by rw [← hds]; rfl
  have g2 : ds.getD 2 0 = 7 := by rw [← hds]; rfl
  have g3 : ds.getD 3 0 = 8 := by rw [← hds]; rfl
  have g4 : ds.getD 4 0 = 9 := by rw [← hds]; rfl
  have g5 : ds.getD 5 0 = 10 := by rw [← hds]; rfl
  obtain ⟨V, hV, e0, e1, e2, e3, e4, e5⟩ : ∃ V : Nat → Value → World → Prop, (∀ i v W W', V i v W → Below W.heap.size W W' → V i v W') ∧ (∀ v W, V 0 v W = (v = .pointer (some ⟨bx, 1, none⟩))) ∧ (∀ v W, V 1 v W = (v = .pointer (some ⟨bx, 1, none⟩))) ∧ (∀ v W, V 2 v W = (v = .int .i64 id)) ∧ (∀ v W, V 3 v W = (v = (.agg #[.int .i64 st, .int .i64 id, .int .i64 va, .slice eo en ec, ha, .slice mo mn mc, u0, u1, u2, u3, u4, u5, u6, u7, u8, u9, .int .i64 ma, .slice po pn pc]))) ∧ (∀ v W, V 4 v W = (v = .int .i64 p)) ∧ (∀ v W, V 5 v W = (v = .bool (id == p))) := by
    refine ⟨fun i v W => match i with
      | 0 => v = .pointer (some ⟨bx, 1, none⟩)
      | 1 => v = .pointer (some ⟨bx, 1, none⟩)
      | 2 => v = .int .i64 id
      | 3 => v = (.agg #[.int .i64 st, .int .i64 id, .int .i64 va, .slice eo en ec, ha, .slice mo mn mc, u0, u1, u2, u3, u4, u5, u6, u7, u8, u9, .int .i64 ma, .slice po pn pc])
      | 4 => v = .int .i64 p
      | 5 => v = .bool (id == p)
      | _ => True, ?_, fun _ _ => rfl, fun _ _ => rfl, fun _ _ => rfl, fun _ _ => rfl, fun _ _ => rfl, fun _ _ => rfl⟩
    intro i v W W' h hb
    match i, h with
    | 0, h => exact h
    | 1, h => exact h
    | 2, h => exact h
    | 3, h => exact h
    | 4, h => exact h
    | 5, h => exact h
    | _ + 6, _ => trivial
  conv => arg 2; whnf
  refine wp_region_V ds V (by kernel_rfl) (by kernel_rfl) (by rw [← hds]; kernel_rfl) hV ?_ ?_
  · refine ⟨?_, ?_, ?_, ?_, ?_, ?_, trivial⟩
    all_goals intro X W hb hd
    · have h0 := hout (X := X) (k := 2) (by decide)
      rw [hA2] at h0
      refine v_value (V := V 0) (v := .pointer (some ⟨bx, 1, none⟩)) ?_ (by rw [e0])
      generalize (puts A X ds).eval = ρ at h0 ⊢
      go_simp
    · have d0 := hd 0 (by kernel_rfl)
      rw [e0, g0] at d0
      have h0 := (hin (X := X) (k := 5) (by decide)).trans d0
      refine v_value (V := V 1) (v := .pointer (some ⟨bx, 1, none⟩)) ?_ (by rw [e1])
      generalize (puts A X ds).eval = ρ at h0 ⊢
      go_simp
    · have d0 := hd 1 (by kernel_rfl)
      rw [e1, g1] at d0
      have h0 := (hin (X := X) (k := 6) (by decide)).trans d0
      obtain ⟨_, c1, _⟩ := InBox.cells ((hb.block _ (Array.getElem?_eq_some_iff.1 hIn).1).trans hIn)
      refine v_value (V := V 2) (v := .int .i64 id) ?_ (by rw [e2])
      generalize (puts A X ds).eval = ρ at h0 ⊢
      go_simp
    · have h0 := hout (X := X) (k := 2) (by decide)
      rw [hA2] at h0
      exact wp_load_row 82 _ rfl bx h0 82 #[.int .i64 st, .int .i64 id, .int .i64 va, .slice eo en ec, ha, .slice mo mn mc, u0, u1, u2, u3, u4, u5, u6, u7, u8, u9, .int .i64 ma, .slice po pn pc] (0, 0) _ ((hb.block _ (Array.getElem?_eq_some_iff.1 hIn).1).trans hIn) Try.underlying82 rfl size_in ⟨_, rfl, by rw [e3], Below.refl _ _⟩
    · have d0 := hd 3 (by kernel_rfl)
      rw [e3, g3] at d0
      have h0 := (hin (X := X) (k := 8) (by decide)).trans d0
      have hf : (puts A X ds).eval (.func 85) = .func (.func 85) #[] #[] := rfl
      refine v_call (V := V 4) (f := 85) (vs := #[(.agg #[.int .i64 st, .int .i64 id, .int .i64 va, .slice eo en ec, ha, .slice mo mn mc, u0, u1, u2, u3, u4, u5, u6, u7, u8, u9, .int .i64 ma, .slice po pn pc])]) ?_ ?_
      · generalize (puts A X ds).eval = ρ at h0 hf ⊢
        go_simp
      · refine (param_any hp hn ((hb.cell (p := ⟨b, off, none⟩) (lt_cell hc)).trans hc)).mono ?_
        rintro r W' ⟨rfl, hb'⟩
        exact ⟨_, rfl, by rw [e4], hb'⟩
    · have d0 := hd 2 (by kernel_rfl)
      rw [e2, g2] at d0
      have h0 := (hin (X := X) (k := 7) (by decide)).trans d0
      have d1 := hd 4 (by kernel_rfl)
      rw [e4, g4] at d1
      have h1 := (hin (X := X) (k := 9) (by decide)).trans d1
      refine v_value (V := V 5) (v := .bool (id == p)) ?_ (by rw [e5])
      generalize (puts A X ds).eval = ρ at h0 h1 ⊢
      go_simp
  · intro X W hb hall
    have r0 := hall 0 (by decide)
    rw [e0, g0] at r0
    have r1 := hall 1 (by decide)
    rw [e1, g1] at r1
    have r2 := hall 2 (by decide)
    rw [e2, g2] at r2
    have r3 := hall 3 (by decide)
    rw [e3, g3] at r3
    have r4 := hall 4 (by decide)
    rw [e4, g4] at r4
    have r5 := hall 5 (by decide)
    rw [e5, g5] at r5
    have := HK X W hb (by first | assumption | exact ⟨by assumption, by assumption⟩ | exact ⟨by assumption, by assumption, by assumption⟩ | simp_all)
    rw [hds] at this
    exact this
end Go.Proofs.Ythnbmnpdjnjejaa
