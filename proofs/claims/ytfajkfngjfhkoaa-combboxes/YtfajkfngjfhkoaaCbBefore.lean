/- The document's Before. -/
import Derived.Test.YtfajkfngjfhkoaaCbComb
namespace Go.Proofs.Ytfajkfngjfhkoaa
open Go.RowKit
theorem two_below (w : World) (o o' : Obj) : Below w.heap.size w ((w.alloc o).alloc o') := ((Below.refl _ w).alloc (Nat.le_refl _) _).alloc (by simp) _
set_option maxRecDepth 100000 in
set_option maxHeartbeats 1000000 in
theorem before_any (x y : Msg) (w : World) : Calls Try.prog 35 #[.agg #[.int .i64 x.f, .int .i64 x.t, .int .i64 x.a, .int .i64 x.v], .agg #[.int .i64 y.f, .int .i64 y.t, .int .i64 y.a, .int .i64 y.v]] w fun e w' => e = .returned (.bool (mlt x y)) ∧ Below w.heap.size w w' := by
  by_cases h1 : x.t = y.t
  · have b1 : (x.t != y.t) = false := by simpa using h1
    by_cases h2 : x.f = y.f
    · have b2 : (x.f != y.f) = false := by simpa using h2
      by_cases h3 : x.a = y.a
      · have b3 : (x.a != y.a) = false := by simpa using h3
        have HE : Hid (mlt x y = decide (x.v < y.v)) := by show _ = _; simp [mlt, h1, h2, h3]
        clear h1 h2 h3
        go_enter Try.func35, Try.ntmps35
        go_wp2
        go_ret
        exact ⟨by rw [HE.out]; rfl, two_below _ _ _⟩
      · have b3 : (x.a != y.a) = true := by simpa using h3
        have HE : Hid (mlt x y = decide (x.a < y.a)) := by show _ = _; simp [mlt, h1, h2, h3]
        clear h1 h2 h3
        go_enter Try.func35, Try.ntmps35
        go_wp2
        go_ret
        exact ⟨by rw [HE.out]; rfl, two_below _ _ _⟩
    · have b2 : (x.f != y.f) = true := by simpa using h2
      have HE : Hid (mlt x y = decide (x.f < y.f)) := by show _ = _; simp [mlt, h1, h2]
      clear h1 h2
      go_enter Try.func35, Try.ntmps35
      go_wp2
      go_ret
      exact ⟨by rw [HE.out]; rfl, two_below _ _ _⟩
  · have b1 : (x.t != y.t) = true := by simpa using h1
    have HE : Hid (mlt x y = decide (x.t < y.t)) := by show _ = _; simp [mlt, h1]
    clear h1
    go_enter Try.func35, Try.ntmps35
    go_wp2
    go_ret
    exact ⟨by rw [HE.out]; rfl, two_below _ _ _⟩
end Go.Proofs.Ytfajkfngjfhkoaa
