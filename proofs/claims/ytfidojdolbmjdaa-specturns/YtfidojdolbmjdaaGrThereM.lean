import Derived.Test.YtfidojdolbmjdaaGrIterM
import Derived.Test.YtfidojdolbmjdaaGrWalk1M
/- What endsAreThere returns: whether all edges' ends are vertices, of vertices that rise. -/
namespace Go.Proofs.Ytfidojdolbmjdaa
open Go.RowKit Go.Shelf
attribute [local go_sem] Oper.semAt_some

theorem edges_fn {w : World} (ao : Option Addr) (n cap : Nat) :
    Calls Try.prog 75 #[.agg #[.slice ao n cap]] w fun r w' => r = .returned (.func (.func 91) #[] #[.pointer (some ⟨w.heap.size, 0, none⟩)]) ∧ w' = w.alloc (.cells #[.slice ao n cap] 24) := by
  have hmf : ∀ (fn : Fn) (first cap : Array Value) (w : World), (Instr.makeFunc fn first cap).run Try.prog w = .ok (.func fn first cap) w := fun _ _ _ _ => rfl
  go_enter Try.func75, Try.ntmps75
  go_wp2
  go_ret
  exact ⟨rfl, rfl⟩
theorem box2 {W : World} {b : Nat} {t : TypeId} {u0 u1 : Value} (h : W.heap[b]? = some (.cells #[u0, u1] t (0, 0))) : W.cell? ⟨b, 0, none⟩ = some u0 ∧ W.cell? ⟨b, 1, none⟩ = some u1 := by
  simp [World.cell?, h]
end Go.Proofs.Ytfidojdolbmjdaa
