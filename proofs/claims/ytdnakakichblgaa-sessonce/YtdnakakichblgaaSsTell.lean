/- tell: what a function that is handed in tells. -/
import Derived.Test.YtdnakakichblgaaSsTab
import Derived.Defers
import Derived.Recover
import Derived.Shelf.Abstract
namespace Go.Proofs.Ytdnakakichblgaa
open Go.RowKit
attribute [local go_sem] Oper.semAt_some
theorem catch_idle (w : World) : CallsD Try.prog 46 #[] .returning w fun e u' w' => e = .returned (.tuple #[]) ∧ u' = .returning ∧ w' = w := by
  refine callsD_of_wpS Try.func46 rfl fun c₀ cs hu => ?_
  apply wpS_region
  simp [wpOpsS, go_sem, recoverD, hu, Try.ntmps46, bodyPostS, results, Try.results46]
  cases c₀
  simp_all
/-- A function that is handed in and tells a text. -/
structure Tells (g : Nat) (cb : Array Value) (s : ByteArray) (w : World) : Prop where
  eg : ∀ args w, (callFunc g args).run Try.prog w = .ok (.enter g args) w
  run : Calls Try.prog g cb w fun r w' => r = .returned (.string s) ∧ Below w.heap.size w w'
set_option maxRecDepth 100000 in
theorem stell {g : Nat} {cb : Array Value} {s : ByteArray} {w : World} (h : Tells g cb s w) : Calls Try.prog 32 #[.func (.func g) #[] cb] w fun r w' => r = .returned (.tuple #[.string s, .bool true]) ∧ Below w.heap.size w w' := by
  have eg := h.eg
  have hr := h.run
  go_enter_defers Try.func32, Try.ntmps32
  go_wp2_with (go_at_fn g; refine hr.mono ?_; rintro e w1 ⟨rfl, hb⟩)
  refine leaves_cons (f := 46) (args := #[]) (by simp) (by simp [go_sem]) ?_
  refine (catch_idle _).mono ?_
  rintro e u' w'' ⟨rfl, rfl, rfl⟩
  simp [Leaves, settle, results, Try.results32, go_sem]
  exact hb
end Go.Proofs.Ytdnakakichblgaa
