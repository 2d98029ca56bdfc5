import Derived.Test.YtnhjflebaeokeaaGreatVwF1M
/- A piece of a list of entries; who leads; is it ready; an entry. -/
namespace Go.Proofs.YtnhjflebaeokeaaGreat
open Go.RowKit Go.Maps
attribute [local go_sem] Oper.semAt_some
set_option maxHeartbeats 800000 in
theorem cut_any {w : World} {v : Value} {L : List Ent} {a b : Nat} (hv : EnS w v L) (hab : a ≤ b) (hb : b ≤ L.length) (hl : L.length ≤ 1000000) : Calls Tryz.prog 55 #[v, .int .i64 a, .int .i64 b] w fun r w' => ∃ v', r = .returned v' ∧ EnO w' w.heap.size v' ((L.take b).drop a) ∧ Below w.heap.size w w' := by
  obtain ⟨ao, c, rfl, hc⟩ := hv.shape
  have hs := hv.sub a b b hab hb (Nat.le_refl _)
  have hL : ((L.take b).drop a).length ≤ 1000000 := by rw [List.length_drop, List.length_take]; omega
  obtain ⟨X, hX⟩ : ∃ X, (L.take b).drop a = X := ⟨_, rfl⟩
  rw [hX] at hs hL ⊢
  have HL : Hid (X.length ≤ 1000000) := hL
  have h1 : (0 : Int) ≤ a := by omega
  have h2 : (a : Int) ≤ b := by omega
  have h3 : (b : Int) ≤ c := by omega
  have h4 : (b : Int) ≤ 1000000 := by omega
  clear hX hL
  by_cases hab2 : b = a
  · have e : subV ao b a = ao := by unfold subV; rw [if_pos hab2]
    rw [e] at hs
    subst hab2
    rw [Nat.sub_self] at hs
    have HS : Hid (EnS w (.slice ao 0 0) X) := hs
    generalize L.length = n at *
    clear hs hv hab hb hl hc e
    go_enter Tryz.func55, Tryz.ntmps55
    go_wp2_with (at_builtin; refine wpl_appV rfl rfl rfl rfl (EnO.nil _ w.heap.size) HS.out (by have := HL.out; simp only [List.length_nil]; omega) (Nat.le_refl _) ?_)
    intro v' w1 hE hF hX
    have HE : Hid (EnO w1 w.heap.size v' X) := hE
    have HF : Hid (Below w.heap.size w w1) := hF.below (Nat.le_refl _) (fun k hk => by cases hk)
    clear hE hF hX HS
    go_wp2
    go_ret
    exact ⟨_, rfl, HE.out, HF.out⟩
  · have hlt : (a : Int) < b := by omega
    obtain ⟨bb, off, rfl, -⟩ : ∃ bb off, ao = some ⟨bb, off, none⟩ ∧ True := by
      obtain ⟨ao', cap', e, h1, h2⟩ := hv
      cases e
      obtain ⟨bb, off, e, _⟩ := h2 (by omega)
      exact ⟨bb, off, e, trivial⟩
    have e : subV (some ⟨bb, off, none⟩) b a = some ⟨bb, off + a * 2, none⟩ := by unfold subV; rw [if_neg hab2]; rfl
    rw [e] at hs
    have HS : Hid (EnS w (.slice (some ⟨bb, off + a * 2, none⟩) (b - a) (b - a)) X) := hs
    generalize L.length = n at *
    clear hs hv hab hb hl hc e
    go_enter Tryz.func55, Tryz.ntmps55
    go_wp2_with (at_builtin; refine wpl_appV rfl rfl rfl rfl (EnO.nil _ w.heap.size) HS.out (by have := HL.out; simp only [List.length_nil]; omega) (Nat.le_refl _) ?_)
    intro v' w1 hE hF hX
    have HE : Hid (EnO w1 w.heap.size v' X) := hE
    have HF : Hid (Below w.heap.size w w1) := hF.below (Nat.le_refl _) (fun k hk => by cases hk)
    clear hE hF hX HS
    go_wp2
    go_ret
    exact ⟨_, rfl, HE.out, HF.out⟩
section
variable {w : World} {S : Nat → Prop} {p : Nat} {A : Nd} {lv : Value} {mw mg mu mk : Nat}
end
end Go.Proofs.YtnhjflebaeokeaaGreat
