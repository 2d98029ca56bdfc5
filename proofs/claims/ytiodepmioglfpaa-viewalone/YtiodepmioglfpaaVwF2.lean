/- A piece of a list of entries; who leads; is it ready; an entry. -/
import Derived.Test.YtiodepmioglfpaaVwF1
namespace Go.Proofs.Ytiodepmioglfpaa
open Go.RowKit Go.Maps
attribute [local go_sem] Oper.semAt_some
set_option maxHeartbeats 800000 in
theorem cut_any {w : World} {v : Value} {L : List Ent} {a b : Nat} (hv : EnS w v L) (hab : a ≤ b) (hb : b ≤ L.length) (hl : L.length ≤ 1000000) : Calls Try.prog 49 #[v, .int .i64 a, .int .i64 b] w fun r w' => ∃ v', r = .returned v' ∧ EnO w' w.heap.size v' ((L.take b).drop a) ∧ Below w.heap.size w w' := by
  obtain ⟨ao, c, rfl, hc⟩ := hv.shape
  have hs := hv.sub a b b hab hb (Nat.le_refl _)
  have hL : ((L.take b).drop a).length ≤ 1000000 := by rw [List.length_drop, List.length_take]; omega
  obtain ⟨X, hX⟩ : ∃ X, (L.take b).drop a = X := ⟨_, rfl⟩
  rw [hX] at hs hL ⊢
  have HL : Hid (X.length ≤ 1000000) := hL
  have h1 : (0 : Int) ≤ a := by omega
  have h2 : (a : Int) ≤ b := by omega
  have h3 : (b : Int) ≤ c := by omega
  have h4 : (b : Int) ≤ 1000000 := by omega
  clear hX hL
  by_cases hab2 : b = a
  · have e : subV ao b a = ao := by unfold subV; rw [if_pos hab2]
    rw [e] at hs
    subst hab2
    rw [Nat.sub_self] at hs
    have HS : Hid (EnS w (.slice ao 0 0) X) := hs
    generalize L.length = n at *
    clear hs hv hab hb hl hc e
    go_enter Try.func49, Try.ntmps49
    go_wp2_with (at_builtin; refine wpl_appV rfl rfl rfl rfl (EnO.nil _ w.heap.size) HS.out (by have := HL.out; simp only [List.length_nil]; omega) (Nat.le_refl _) ?_)
    intro v' w1 hE hF hX
    have HE : Hid (EnO w1 w.heap.size v' X) := hE
    have HF : Hid (Below w.heap.size w w1) := hF.below (Nat.le_refl _) (fun k hk => by cases hk)
    clear hE hF hX HS
    go_wp2
    go_ret
    exact ⟨_, rfl, HE.out, HF.out⟩
  · have hlt : (a : Int) < b := by omega
    obtain ⟨bb, off, rfl, -⟩ : ∃ bb off, ao = some ⟨bb, off, none⟩ ∧ True := by
      obtain ⟨ao', cap', e, h1, h2⟩ := hv
      cases e
      obtain ⟨bb, off, e, _⟩ := h2 (by omega)
      exact ⟨bb, off, e, trivial⟩
    have e : subV (some ⟨bb, off, none⟩) b a = some ⟨bb, off + a * 2, none⟩ := by unfold subV; rw [if_neg hab2]; rfl
    rw [e] at hs
    have HS : Hid (EnS w (.slice (some ⟨bb, off + a * 2, none⟩) (b - a) (b - a)) X) := hs
    generalize L.length = n at *
    clear hs hv hab hb hl hc e
    go_enter Try.func49, Try.ntmps49
    go_wp2_with (at_builtin; refine wpl_appV rfl rfl rfl rfl (EnO.nil _ w.heap.size) HS.out (by have := HL.out; simp only [List.length_nil]; omega) (Nat.le_refl _) ?_)
    intro v' w1 hE hF hX
    have HE : Hid (EnO w1 w.heap.size v' X) := hE
    have HF : Hid (Below w.heap.size w w1) := hF.below (Nat.le_refl _) (fun k hk => by cases hk)
    clear hE hF hX HS
    go_wp2
    go_ret
    exact ⟨_, rfl, HE.out, HF.out⟩
section
variable {w : World} {S : Nat → Prop} {p : Nat} {A : Nd} {lv : Value} {mw mg mu mk : Nat}
theorem leader_any (h : NA w S p A lv mw mg mu mk) (ok : A.ok) : Calls Try.prog 36 #[.pointer (some ⟨p, 0, none⟩)] w fun r w' => r = .returned (.int .i64 (if A.nm = A.vw then A.vw % A.all else -1)) ∧ ∃ q, w' = w.drewN q := by
  have HH : Hid (NA w S p A lv mw mg mu mk) := h
  have HO : Hid A.ok := ok
  obtain ⟨_, _, c2, _⟩ := h.cells
  obtain ⟨b1, hb1⟩ : ∃ b, (A.nm == A.vw) = b := ⟨_, rfl⟩
  have HR : Hid ((if A.nm = A.vw then A.vw % A.all else -1) = if b1 then A.vw % A.all else -1) := by
    show _ = _
    rw [← hb1]
    simp
  have H1 : Hid (∀ W q, W = w.drewN q → Calls Try.prog 66 #[.pointer (some ⟨p, 0, none⟩)] W fun r w' => r = .returned (.bool b1) ∧ ∃ q, w' = W.drewN q) := fun W q e => by rw [e, ← hb1]; exact begun_any (h.dn q)
  have h0 : 0 ≤ A.vw := by have := ok.nm0; have := ok.nmv; omega
  have H2 : Hid (∀ W q, W = w.drewN q → Calls Try.prog 68 #[.pointer (some ⟨p, 0, none⟩), .int .i64 A.vw] W fun r w' => r = .returned (.int .i64 (A.vw % A.all)) ∧ ∃ q, w' = W.drewN q) := fun W q e => by rw [e]; exact leaderOf_any (h.dn q) ok h0
  generalize A.vw % A.all = ld at HR H2
  rw [HR.out]
  generalize A.vw = vw at c2 H2
  clear h ok hb1 h0 HR
  go_enter Try.func36, Try.ntmps36
  cases b1
  · go_wp2_with (first
      | (go_at_call 59; refine (none_ok HH.out HO.out).mono ?_; rintro r w1 ⟨rfl, rfl⟩)
      | (go_at_call 66; refine Calls.mono (H1.out _ 0 rfl) ?_; rintro r w1 ⟨rfl, q1, rfl⟩))
    go_ret
    exact ⟨rfl, _, rfl⟩
  · go_wp2_with (first
      | (go_at_call 59; refine (none_ok HH.out HO.out).mono ?_; rintro r w1 ⟨rfl, rfl⟩)
      | (go_at_call 66; refine Calls.mono (H1.out _ 0 rfl) ?_; rintro r w1 ⟨rfl, q1, rfl⟩)
      | (go_at_call 68; refine Calls.mono (H2.out _ q1 rfl) ?_; rintro r w1 ⟨rfl, q2, rfl⟩))
    go_ret
    exact ⟨rfl, q1 + q2, by first | rfl | simp⟩
theorem ready_any (h : NA w S p A lv mw mg mu mk) (ok : A.ok) : Calls Try.prog 35 #[.pointer (some ⟨p, 0, none⟩)] w fun r w' => r = .returned (.bool (decide (A.role = 3) && decide (A.had ≤ A.cm))) ∧ ∃ q, w' = w.drewN q := by
  have HH : Hid (NA w S p A lv mw mg mu mk) := h
  have HO : Hid A.ok := ok
  obtain ⟨_, _, _, _, _, _, _, _, c8, c9, _⟩ := h.cells
  have H1 : Hid (∀ W q, W = w.drewN q → Calls Try.prog 34 #[.pointer (some ⟨p, 0, none⟩)] W fun r w' => r = .returned (.int .i64 A.role) ∧ ∃ q, w' = W.drewN q) := fun W q e => by rw [e]; exact role_any (h.dn q) ok
  generalize A.cm = cm at c8 ⊢
  generalize A.had = had at c9 ⊢
  generalize A.role = ro at H1 ⊢
  clear h ok
  by_cases hr : ro = 3
  · subst hr
    go_enter Try.func35, Try.ntmps35
    go_wp2
    go_quiet ((go_at_call 34; exact Calls.quiet_of (H1.out _ _ rfl)))
    go_wp2
    go_ret
    exact ⟨by simp, nq, rfl⟩
  · have hr2 : (ro == 3) = false := by simpa using hr
    go_enter Try.func35, Try.ntmps35
    go_wp2
    go_quiet ((go_at_call 34; exact Calls.quiet_of (H1.out _ _ rfl)))
    go_wp2
    go_ret
    exact ⟨by simp [hr], nq, rfl⟩
end
end Go.Proofs.Ytiodepmioglfpaa
