/- The document's awake of layer 4. -/
import Derived.Test.YtjbkbhilcmiamaaAgMerge
namespace Go.Proofs.Ytjbkbhilcmiamaa
open Go.RowKit
def ow1 : Nat → Option Int := addO (fun _ => none) 1 5
def ow2 : Nat → Option Int := addO ow1 1 3
theorem ow1_1 : ow1 1 = some 5 := by decide
theorem ow1_e : addE (fun _ => none) 1 5 = 0 := by decide
theorem ow2_e : addE ow1 1 3 = 0 := by decide
theorem ow2_1 : ow2 1 = some 3 := by decide
theorem ow1_ok : OkO ow1 := OkO.none.add 1 (x := 5) ⟨by decide, by decide⟩
theorem ow2_ok : OkO ow2 := ow1_ok.add 1 (x := 3) ⟨by decide, by decide⟩
theorem zero_ag : AO (fun _ => none) = .agg zc := rfl
set_option maxRecDepth 100000 in
set_option maxHeartbeats 1000000 in
theorem awake4_any (w : World) : Calls Try.prog 12 #[] w fun e w' => e = .returned (.bool true) ∧ Below w.heap.size w w' := by
  go_enter Try.func12, Try.ntmps12
  go_wp2_with (first
    | (go_at_call 9; first
      | (have := hb1; refine (aAdd_any ow1 1 3 _ ow1_ok ⟨by decide, by decide⟩).mono ?_; rintro e w2 ⟨rfl, hb2⟩; rw [ow2_e, show addO ow1 1 3 = ow2 from rfl]; simp only [AO, AG])
      | (refine (aAdd_any (fun _ => none) 1 5 _ OkO.none ⟨by decide, by decide⟩).mono ?_; rintro e w1 ⟨rfl, hb1⟩; rw [ow1_e, show addO (fun _ => none) 1 5 = ow1 from rfl]; simp only [AO, AG]))
    | (go_at_call 11; refine (get_some (o := ow2) (k := 1) (v := 3) (by decide) ow2_1 _).mono ?_; rintro e w3 ⟨rfl, hb3⟩))
  go_ret
  have h1 : Below w.heap.size w (w1.alloc (.cells (AOc ow1) 26)) := hb1.alloc hb1.size _
  have h2 := h1.trans (hb2.mono h1.size)
  have h3 := h2.alloc h2.size (.cells (AOc ow2) 26)
  exact ⟨rfl, h3.trans (hb3.mono h3.size)⟩
end Go.Proofs.Ytjbkbhilcmiamaa
