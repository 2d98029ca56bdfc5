/- What WalNil returns: true. -/
import Derived.Test.YtdapapnkmicklaaWlAw
namespace Go.Proofs.Ytdapapnkmicklaa
open Go.RowKit Go.Maps
attribute [local go_sem] Oper.semAt_some
set_option maxRecDepth 100000 in
set_option maxHeartbeats 1600000 in
theorem walNil_any (w : World) (a0 : Option Addr) (len0 cap0 : Nat) : Calls Try.prog 7 #[.slice a0 len0 cap0] w fun r w' => r = .returned (.bool true) ∧ Below w.heap.size w w' := by
  have hN := new_any w
  obtain ⟨n0, hn0⟩ : ∃ n0, w.heap.size = n0 := ⟨_, rfl⟩
  rw [hn0] at hN ⊢
  have HC : Hid (∀ W, n0 ≤ W.heap.size → DkAt W n0 n0 dk0 → Calls Try.prog 16 #[.pointer (some ⟨n0, 0, none⟩), .int .i64 0, .int .i64 0] W fun r w' => r = .returned (.tuple #[]) ∧ DkAt w' n0 n0 (dk0.fail 0 0) ∧ FrD n0 W w') := fun W hB hD => cl_crash hD hB cl0 (by decide) (by decide) 0 0
  have HO : Hid (∀ W, DkAt W n0 n0 (dk0.fail 0 0) → Calls Try.prog 12 #[.pointer (some ⟨n0, 0, none⟩)] W fun r w' => r = .returned (.tuple #[.pointer none, .int .i64 0, .int .i64 7]) ∧ Below W.heap.size W w') := fun W hD => open_dead hD rfl
  have heq : ((str []).toList == []) = true := by rw [str_toList]; rfl
  go_enter Try.func7, Try.ntmps7
  have t1 : True := trivial
  go_wp2_with (first
    | (go_at_call 12; have _t := t1; clear t1; refine (open_nil _).mono ?_; rintro r w0 ⟨rfl, rfl⟩)
    | (go_at_call 8; refine hN.mono ?_; rintro r w1 ⟨rfl, hD, hb1⟩; have HD1 : Hid (DkAt w1 n0 n0 dk0) := ⟨_, _, _, hD⟩; have HB1 : Hid (Below n0 w0 w1) := hb1; have HS1 : Hid (n0 ≤ w1.heap.size) := (by have := hb1.size; show _ ≤ _; omega); clear hD hb1)
    | (go_at_call 16; refine (HC.out _ HS1.out HD1.out).mono ?_; rintro r w2 ⟨rfl, hD, hF⟩; have HD2 : Hid (DkAt w2 n0 n0 (dk0.fail 0 0)) := hD; have HB2 : Hid (Below n0 w0 w2) := HB1.out.trans (FrD.below hF HS1.out); have HS2 : Hid (n0 ≤ w2.heap.size) := Nat.le_trans HS1.out hF.size; clear hD hF)
    | (go_at_call 12; refine (HO.out _ HD2.out).mono ?_; rintro r w3 ⟨rfl, hb⟩; have HB3 : Hid (Below n0 w0 w3) := HB2.out.trans (hb.mono HS2.out); have HS3 : Hid (n0 ≤ w3.heap.size) := Nat.le_trans HS2.out hb.size; clear hb)
    | (go_at_call 13; refine (awake12 _).mono ?_; rintro r w4 ⟨rfl, hb⟩; have HB4 : Hid (Below n0 w0 w4) := HB3.out.trans (hb.mono HS3.out); clear hb)
    | (go_at_call 18; refine (add_nil _ _).mono ?_; rintro r w5 ⟨rfl, rfl⟩)
    | (go_at_call 14; refine (reset_nil _ _ _).mono ?_; rintro r w6 ⟨rfl, rfl⟩)
    | (go_at_call 19; refine (snap_nil _).mono ?_; rintro r w7 ⟨rfl, rfl⟩)
    | (go_at_call 22; refine (all_nil _).mono ?_; rintro r w8 ⟨rfl, rfl⟩)
    | (go_at_call 20; refine (len_nil _).mono ?_; rintro r w9 ⟨rfl, rfl⟩))
  go_ret
  exact ⟨rfl, HB4.out⟩
end Go.Proofs.Ytdapapnkmicklaa
