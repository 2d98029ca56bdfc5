import Derived.Test.YtnhjflebaeokeaaGreatVwAtM
import Derived.Deep.QuietTactic
import Derived.BigQuiet
/- A master's small functions: is it none, its last index, who leads, its role and so on; and of none. -/
namespace Go.Proofs.YtnhjflebaeokeaaGreat
open Go.RowKit Go.Maps
attribute [local go_sem] Oper.semAt_some
theorem below_dn (w : World) (q : Nat) : Below w.heap.size w (w.drewN q) := ⟨rfl, rfl, rfl, Nat.le_refl _, fun _ _ => rfl⟩
section
variable {w : World} {S : Nat → Prop} {p : Nat} {A : Nd} {lv : Value} {mw mg mu mk : Nat}
theorem NA.dn (h : NA w S p A lv mw mg mu mk) (q : Nat) : NA (w.drewN q) S p A lv mw mg mu mk := h.new (below_dn w q)
theorem none_ok (h : NA w S p A lv mw mg mu mk) (ok : A.ok) : Calls Tryz.prog 54 #[.pointer (some ⟨p, 0, none⟩)] w fun r w' => r = .returned (.bool false) ∧ w' = w := by
  obtain ⟨_, c1, _⟩ := h.cells
  have h0 : (A.all == 0) = false := by have := ok.all0; simp; omega
  generalize A.all = al at c1 h0
  clear h ok
  go_enter Tryz.func54, Tryz.ntmps54
  go_wp2
  go_ret
  exact ⟨rfl, rfl⟩
theorem begun_any (h : NA w S p A lv mw mg mu mk) : Calls Tryz.prog 61 #[.pointer (some ⟨p, 0, none⟩)] w fun r w' => r = .returned (.bool (A.nm == A.vw)) ∧ ∃ q, w' = w.drewN q := by
  obtain ⟨_, _, c2, c3, _⟩ := h.cells
  generalize A.nm = nm at c3 ⊢
  generalize A.vw = vw at c2 ⊢
  clear h
  go_enter Tryz.func61, Tryz.ntmps61
  go_wp2
  go_quiet (fail)
  go_wp2
  go_ret
  exact ⟨rfl, nq, rfl⟩
theorem last_any (h : NA w S p A lv mw mg mu mk) (ok : A.ok) : Calls Tryz.prog 73 #[.pointer (some ⟨p, 0, none⟩)] w fun r w' => r = .returned (.int .i64 A.last) ∧ ∃ q, w' = w.drewN q := by
  obtain ⟨_, _, _, _, c4, _, _, c7, _⟩ := h.cells
  obtain ⟨ao, cc, rfl, _⟩ := h.log.shape
  have h0 := ok.bi0
  have h1 := ok.bi1
  have h2 := ok.len
  unfold Nd.last
  generalize A.log.length = n at c7 h2 ⊢
  generalize A.bi = bi at c4 h0 h1 ⊢
  clear h ok
  go_enter Tryz.func73, Tryz.ntmps73
  go_wp2
  go_quiet (fail)
  go_wp2
  go_ret
  exact ⟨by go_num, nq, rfl⟩
theorem leaderOf_any (h : NA w S p A lv mw mg mu mk) (ok : A.ok) {v : Int} (hv : 0 ≤ v) : Calls Tryz.prog 98 #[.pointer (some ⟨p, 0, none⟩), .int .i64 v] w fun r w' => r = .returned (.int .i64 (v % A.all)) ∧ ∃ q, w' = w.drewN q := by
  obtain ⟨_, c1, _⟩ := h.cells
  have h0 := ok.all0
  have h1 := ok.all1
  generalize A.all = al at c1 h0 h1 ⊢
  have h2 : ¬ al = 0 := by omega
  have h3 : (al == 0) = false := by simp; omega
  have e1 : v.tmod al = v % al := Int.tmod_eq_emod_of_nonneg hv
  have h4 := Int.emod_nonneg v h2
  have h5 := Int.emod_lt_of_pos v (show (0 : Int) < al by omega)
  clear h ok
  go_enter Tryz.func98, Tryz.ntmps98
  go_wp2
  go_ret
  refine ⟨?_, 0, rfl⟩
  first | rfl | (rw [e1]) | (simp only [e1]; go_num)
theorem next_any (h : NA w S p A lv mw mg mu mk) (ok : A.ok) : Calls Tryz.prog 62 #[.pointer (some ⟨p, 0, none⟩)] w fun r w' => r = .returned (.bool (A.vw % A.all == A.me)) ∧ ∃ q, w' = w.drewN q := by
  obtain ⟨c0, _, c2, _⟩ := h.cells
  have HH : Hid (NA w S p A lv mw mg mu mk) := h
  have HO : Hid A.ok := ok
  have h0 : 0 ≤ A.vw := by have := ok.nm0; have := ok.nmv; omega
  obtain ⟨vw, hvw⟩ : ∃ vw, A.vw = vw := ⟨_, rfl⟩
  obtain ⟨me, hme⟩ : ∃ me, A.me = me := ⟨_, rfl⟩
  rw [hvw] at c2 h0 ⊢
  rw [hme] at c0 ⊢
  clear h ok hvw hme
  go_enter Tryz.func62, Tryz.ntmps62
  go_wp2
  go_quiet ((go_at_call 98; exact Calls.quiet_of (leaderOf_any (HH.out.dn _) HO.out h0)))
  go_wp2
  go_ret
  exact ⟨rfl, nq, rfl⟩
/-- Its role. -/
def Nd.role (A : Nd) : Int := if A.nm = A.vw then (if A.vw % A.all = A.me then 3 else 1) else 2
theorem role_any (h : NA w S p A lv mw mg mu mk) (ok : A.ok) : Calls Tryz.prog 35 #[.pointer (some ⟨p, 0, none⟩)] w fun r w' => r = .returned (.int .i64 A.role) ∧ ∃ q, w' = w.drewN q := by
  have HH : Hid (NA w S p A lv mw mg mu mk) := h
  have HO : Hid A.ok := ok
  obtain ⟨b1, hb1⟩ : ∃ b, (A.nm == A.vw) = b := ⟨_, rfl⟩
  obtain ⟨b2, hb2⟩ : ∃ b, (A.vw % A.all == A.me) = b := ⟨_, rfl⟩
  have HR : Hid (A.role = if b1 then (if b2 then 3 else 1) else 2) := by
    show _ = _
    unfold Nd.role
    rw [← hb1, ← hb2]
    simp
  have H1 : Hid (∀ W q, W = w.drewN q → Calls Tryz.prog 61 #[.pointer (some ⟨p, 0, none⟩)] W fun r w' => r = .returned (.bool b1) ∧ ∃ q, w' = W.drewN q) := fun W q e => by rw [e, ← hb1]; exact begun_any (h.dn q)
  have H2 : Hid (∀ W q, W = w.drewN q → Calls Tryz.prog 62 #[.pointer (some ⟨p, 0, none⟩)] W fun r w' => r = .returned (.bool b2) ∧ ∃ q, w' = W.drewN q) := fun W q e => by rw [e, ← hb2]; exact next_any (h.dn q) ok
  generalize A.role = ro at HR ⊢
  clear h ok hb1 hb2
  go_enter Tryz.func35, Tryz.ntmps35
  cases b1
  · go_wp2_with (first
      | (go_at_call 54; refine (none_ok HH.out HO.out).mono ?_; rintro r w1 ⟨rfl, rfl⟩)
      | (go_at_call 61; refine Calls.mono (H1.out _ 0 rfl) ?_; rintro r w1 ⟨rfl, q1, rfl⟩))
    go_ret
    exact ⟨by rw [HR.out]; rfl, _, rfl⟩
  · cases b2
    all_goals
      go_wp2_with (first
        | (go_at_call 54; refine (none_ok HH.out HO.out).mono ?_; rintro r w1 ⟨rfl, rfl⟩)
        | (go_at_call 61; refine Calls.mono (H1.out _ 0 rfl) ?_; rintro r w1 ⟨rfl, q1, rfl⟩)
        | (go_at_call 62; refine Calls.mono (H2.out _ q1 rfl) ?_; rintro r w1 ⟨rfl, q2, rfl⟩))
      go_ret
      exact ⟨by rw [HR.out]; rfl, q1 + q2, by first | rfl | simp⟩
theorem commit_any (h : NA w S p A lv mw mg mu mk) (ok : A.ok) : Calls Tryz.prog 53 #[.pointer (some ⟨p, 0, none⟩)] w fun r w' => r = .returned (.int .i64 A.cm) ∧ ∃ q, w' = w.drewN q := by
  have HH : Hid (NA w S p A lv mw mg mu mk) := h
  have HO : Hid A.ok := ok
  obtain ⟨_, _, _, _, _, _, _, _, c8, _⟩ := h.cells
  generalize A.cm = cm at c8 ⊢
  clear h ok
  go_enter Tryz.func53, Tryz.ntmps53
  go_wp2_with (go_at_call 54; refine (none_ok HH.out HO.out).mono ?_; rintro r w1 ⟨rfl, rfl⟩)
  go_ret
  exact ⟨rfl, 0, rfl⟩
end
end Go.Proofs.YtnhjflebaeokeaaGreat
