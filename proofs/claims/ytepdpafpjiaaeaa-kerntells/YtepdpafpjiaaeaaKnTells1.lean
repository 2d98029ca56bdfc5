/- Region 1 of KernTells: To and Back, in any order. -/
import Derived.Test.YtepdpafpjiaaeaaKnTo
import Derived.Test.YtepdpafpjiaaeaaRegV
namespace Go.Proofs.Ytepdpafpjiaaeaa
open Go.RowKit
theorem edNew {w w' : World} {P : Nat → Prop} {ao : Option Addr} {L : List Ed} (h : EdAt w P ao L) (hb : Below w.heap.size w w') : EdAt w' P ao L := h.kept (Fr.ofBelow hb (fun _ => False)) (fun _ _ hp => ⟨fun h => h, hp⟩)
set_option maxRecDepth 100000 in
set_option maxHeartbeats 1000000 in
theorem tells_r1 {W0 : World} {A : Act} {P : Nat → Prop} {st id va ma : Int} {eo mo po : Option Addr} {en ec mn mc pn pc : Nat} {ha u0 u1 u2 u3 u4 u5 u6 u7 u8 u9 : Value} {bx : Nat} {x : Int} {E : List Ed} {K : Act → World → Prop} {Q' : Exit → Act → World → Prop} (hsz : A.tmps.size = 71) (hA2 : A.eval (.tmp 2) = .pointer (some ⟨bx, 0, none⟩)) (hA1 : A.eval (.tmp 1) = .int .i64 x) (hIn : InBox W0 bx #[.int .i64 st, .int .i64 id, .int .i64 va, .slice eo en ec, ha, .slice mo mn mc, u0, u1, u2, u3, u4, u5, u6, u7, u8, u9, .int .i64 ma, .slice po pn pc]) (he : en = E.length) (hE : EdAt W0 P eo E) (hl : E.length ≤ 1048576)
    (HK : ∀ X W, Below W0.heap.size W0 W → KM W W0.heap.size (X 5) (toL id x E) ∧ KU W W0.heap.size (X 6) (backL id E) → K (puts A X [9, 10, 11, 12, 13, 5, 6]) W) :
    Code.wp Try.prog ((Try.f5.body.bind (regionJ 1)).getD .skip) (Exit.then K Q') A W0 := by
  obtain ⟨ds, hds⟩ : ∃ ds, [9, 10, 11, 12, 13, 5, 6] = ds := ⟨_, rfl⟩
  have hin : ∀ {X : Nat → Value} {k : Nat}, k ∈ [9, 10, 11, 12, 13, 5, 6] → (puts A X ds).eval (.tmp k) = X k := fun hk => by rw [← hds]; exact eval_in hk (by rw [hsz]; revert hk; simp only [List.mem_cons, List.not_mem_nil, or_false]; omega)
  have hout : ∀ {X : Nat → Value} {k : Nat}, k ∉ [9, 10, 11, 12, 13, 5, 6] → (puts A X ds).eval (.tmp k) = A.eval (.tmp k) := fun hk => by rw [← hds]; exact eval_out hk
  have g0 : ds.getD 0 0 = 9 := by rw [← hds]; rfl
  have g1 : ds.getD 1 0 = 10 := by rw [← hds]; rfl
  have g2 : ds.getD 2 0 = 11 := by rw [← hds]; rfl
  have g3 : ds.getD 3 0 = 12 := by rw [← hds]; rfl
  have g4 : ds.getD 4 0 = 13 := by rw [← hds]; rfl
  have g5 : ds.getD 5 0 = 5 := by rw [← hds]; rfl
  have g6 : ds.getD 6 0 = 6 := by rw [← hds]; rfl
  obtain ⟨V, hV, e0, e1, e2, e3, e4, e5, e6⟩ : ∃ V : Nat → Value → World → Prop, (∀ i v W W', V i v W → Below W.heap.size W W' → V i v W') ∧ (∀ v W, V 0 v W = (v = (.agg #[.int .i64 st, .int .i64 id, .int .i64 va, .slice eo en ec, ha, .slice mo mn mc, u0, u1, u2, u3, u4, u5, u6, u7, u8, u9, .int .i64 ma, .slice po pn pc]))) ∧ (∀ v W, V 1 v W = (v = .int .i64 x)) ∧ (∀ v W, V 2 v W = (KM W W0.heap.size v (toL id x E))) ∧ (∀ v W, V 3 v W = (v = (.agg #[.int .i64 st, .int .i64 id, .int .i64 va, .slice eo en ec, ha, .slice mo mn mc, u0, u1, u2, u3, u4, u5, u6, u7, u8, u9, .int .i64 ma, .slice po pn pc]))) ∧ (∀ v W, V 4 v W = (KU W W0.heap.size v (backL id E))) ∧ (∀ v W, V 5 v W = (KM W W0.heap.size v (toL id x E))) ∧ (∀ v W, V 6 v W = (KU W W0.heap.size v (backL id E))) := by
    refine ⟨fun i v W => match i with
      | 0 => v = (.agg #[.int .i64 st, .int .i64 id, .int .i64 va, .slice eo en ec, ha, .slice mo mn mc, u0, u1, u2, u3, u4, u5, u6, u7, u8, u9, .int .i64 ma, .slice po pn pc])
      | 1 => v = .int .i64 x
      | 2 => KM W W0.heap.size v (toL id x E)
      | 3 => v = (.agg #[.int .i64 st, .int .i64 id, .int .i64 va, .slice eo en ec, ha, .slice mo mn mc, u0, u1, u2, u3, u4, u5, u6, u7, u8, u9, .int .i64 ma, .slice po pn pc])
      | 4 => KU W W0.heap.size v (backL id E)
      | 5 => KM W W0.heap.size v (toL id x E)
      | 6 => KU W W0.heap.size v (backL id E)
      | _ => True, ?_, fun _ _ => rfl, fun _ _ => rfl, fun _ _ => rfl, fun _ _ => rfl, fun _ _ => rfl, fun _ _ => rfl, fun _ _ => rfl⟩
    intro i v W W' h hb
    match i, h with
    | 0, h => exact h
    | 1, h => exact h
    | 2, h => exact k_new h hb
    | 3, h => exact h
    | 4, h => exact k_new h hb
    | 5, h => exact k_new h hb
    | 6, h => exact k_new h hb
    | _ + 7, _ => trivial
  conv => arg 2; whnf
  refine wp_region_V ds V (by kernel_rfl) (by kernel_rfl) (by rw [← hds]; kernel_rfl) hV ?_ ?_
  · refine ⟨?_, ?_, ?_, ?_, ?_, ?_, ?_, trivial⟩
    all_goals intro X W hb hd
    · have h0 := hout (X := X) (k := 2) (by decide)
      rw [hA2] at h0
      exact wp_load_row 49 _ rfl bx h0 49 #[.int .i64 st, .int .i64 id, .int .i64 va, .slice eo en ec, ha, .slice mo mn mc, u0, u1, u2, u3, u4, u5, u6, u7, u8, u9, .int .i64 ma, .slice po pn pc] (0, 0) _ ((hb.block _ (Array.getElem?_eq_some_iff.1 hIn).1).trans hIn) Try.underlying49 rfl size_in ⟨_, rfl, by rw [e0], Below.refl _ _⟩
    · have h0 := hout (X := X) (k := 1) (by decide)
      rw [hA1] at h0
      refine v_value (V := V 1) (v := .int .i64 x) ?_ (by rw [e1])
      generalize (puts A X ds).eval = ρ at h0 ⊢
      go_simp
    · have d0 := hd 0 (by kernel_rfl)
      rw [e0, g0] at d0
      have h0 := (hin (X := X) (k := 9) (by decide)).trans d0
      have d1 := hd 1 (by kernel_rfl)
      rw [e1, g1] at d1
      have h1 := (hin (X := X) (k := 10) (by decide)).trans d1
      have hf : (puts A X ds).eval (.func 23) = .func (.func 23) #[] #[] := rfl
      refine v_call (V := V 2) (f := 23) (vs := #[(.agg #[.int .i64 st, .int .i64 id, .int .i64 va, .slice eo en ec, ha, .slice mo mn mc, u0, u1, u2, u3, u4, u5, u6, u7, u8, u9, .int .i64 ma, .slice po pn pc]), .int .i64 x]) ?_ ?_
      · generalize (puts A X ds).eval = ρ at h0 h1 hf ⊢
        go_simp
      · refine (to_any x E he (edNew hE hb) hl).mono ?_
        rintro r W' ⟨tv, rfl, hK, hb'⟩
        exact ⟨_, rfl, by rw [e2]; exact k_low hK hb.size, hb'⟩
    · have h0 := hout (X := X) (k := 2) (by decide)
      rw [hA2] at h0
      exact wp_load_row 49 _ rfl bx h0 49 #[.int .i64 st, .int .i64 id, .int .i64 va, .slice eo en ec, ha, .slice mo mn mc, u0, u1, u2, u3, u4, u5, u6, u7, u8, u9, .int .i64 ma, .slice po pn pc] (0, 0) _ ((hb.block _ (Array.getElem?_eq_some_iff.1 hIn).1).trans hIn) Try.underlying49 rfl size_in ⟨_, rfl, by rw [e3], Below.refl _ _⟩
    · have d0 := hd 3 (by kernel_rfl)
      rw [e3, g3] at d0
      have h0 := (hin (X := X) (k := 12) (by decide)).trans d0
      have hf : (puts A X ds).eval (.func 24) = .func (.func 24) #[] #[] := rfl
      refine v_call (V := V 4) (f := 24) (vs := #[(.agg #[.int .i64 st, .int .i64 id, .int .i64 va, .slice eo en ec, ha, .slice mo mn mc, u0, u1, u2, u3, u4, u5, u6, u7, u8, u9, .int .i64 ma, .slice po pn pc])]) ?_ ?_
      · generalize (puts A X ds).eval = ρ at h0 hf ⊢
        go_simp
      · refine (back_any E he (edNew hE hb) hl).mono ?_
        rintro r W' ⟨tv, rfl, hK, hb'⟩
        exact ⟨_, rfl, by rw [e4]; exact k_low hK hb.size, hb'⟩
    · have d0 := hd 2 (by kernel_rfl)
      rw [e2, g2] at d0
      have h0 := hin (X := X) (k := 11) (by decide)
      refine v_value (V := V 5) (v := X 11) ?_ (by rw [e5]; exact d0)
      generalize (puts A X ds).eval = ρ at h0 ⊢
      go_simp
    · have d0 := hd 4 (by kernel_rfl)
      rw [e4, g4] at d0
      have h0 := hin (X := X) (k := 13) (by decide)
      refine v_value (V := V 6) (v := X 13) ?_ (by rw [e6]; exact d0)
      generalize (puts A X ds).eval = ρ at h0 ⊢
      go_simp
  · intro X W hb hall
    have r0 := hall 0 (by decide)
    rw [e0, g0] at r0
    have r1 := hall 1 (by decide)
    rw [e1, g1] at r1
    have r2 := hall 2 (by decide)
    rw [e2, g2] at r2
    have r3 := hall 3 (by decide)
    rw [e3, g3] at r3
    have r4 := hall 4 (by decide)
    rw [e4, g4] at r4
    have r5 := hall 5 (by decide)
    rw [e5, g5] at r5
    have r6 := hall 6 (by decide)
    rw [e6, g6] at r6
    have := HK X W hb ⟨r5, r6⟩
    rw [hds] at this
    exact this
end Go.Proofs.Ytepdpafpjiaaeaa
