/- PlanNil: nil leases. -/
import Derived.Test.YtipopaicehimeaaPlF2
namespace Go.Proofs.Ytipopaicehimeaa
open Go.RowKit
attribute [local go_sem] Oper.semAt_some
theorem plife_nil (k : Int) (w : World) : Calls Try.prog 15 #[.pointer none, .int .i64 k] w fun r w' => r = .returned (.tuple #[.int .i64 0, .bool false]) ∧ w' = w := by
  go_enter Try.func15, Try.ntmps15
  go_wp2
  go_ret2
  exact ⟨rfl, rfl⟩
theorem prenew_nil (k l n : Int) (w : World) : Calls Try.prog 14 #[.pointer none, .int .i64 k, .int .i64 l, .int .i64 n] w fun r w' => r = .returned (.bool false) ∧ w' = w := by
  go_enter Try.func14, Try.ntmps14
  go_wp2
  go_ret
  exact ⟨rfl, rfl⟩
theorem pgone_nil (n : Int) (w : World) : Calls Try.prog 17 #[.pointer none, .int .i64 n] w fun r w' => r = .returned (.slice none 0 0) ∧ w' = w := by
  go_enter Try.func17, Try.ntmps17
  go_wp2
  go_ret
  exact ⟨rfl, rfl⟩
theorem pdrop_nil (n : Int) (w : World) : Calls Try.prog 13 #[.pointer none, .int .i64 n] w fun r w' => r = .returned (.bool false) ∧ w' = w := by
  go_enter Try.func13, Try.ntmps13
  go_wp2
  go_ret
  exact ⟨rfl, rfl⟩
theorem plive_nil (w : World) : Calls Try.prog 16 #[.pointer none] w fun r w' => r = .returned (.slice none 0 0) ∧ w' = w := by
  go_enter Try.func16, Try.ntmps16
  go_wp2
  go_ret
  exact ⟨rfl, rfl⟩
set_option maxRecDepth 100000 in
set_option maxHeartbeats 4000000 in
theorem law_pnil (w : World) (k l n : Int) : Calls Try.prog 5 #[.int .i64 k, .int .i64 l, .int .i64 n] w fun r w' => r = .returned (.bool true) ∧ Below w.heap.size w w' := by
  have hA := awake16 w
  go_enter Try.func5, Try.ntmps5
  go_wp2_with (first
    | (go_at_call 15; refine (plife_nil _ _).mono ?_; rintro r w ⟨rfl, rfl⟩)
    | (go_at_call 8; refine hA.mono ?_; rintro r w1 ⟨rfl, hb1⟩)
    | (go_at_call 14; refine (prenew_nil _ _ _ _).mono ?_; rintro r w1 ⟨rfl, rfl⟩)
    | (go_at_call 17; refine (pgone_nil _ _).mono ?_; rintro r w1 ⟨rfl, rfl⟩)
    | (go_at_call 13; refine (pdrop_nil _ _).mono ?_; rintro r w1 ⟨rfl, rfl⟩)
    | (go_at_call 16; refine (plive_nil _).mono ?_; rintro r w1 ⟨rfl, rfl⟩))
  go_ret
  exact ⟨rfl, hb1⟩
end Go.Proofs.Ytipopaicehimeaa
