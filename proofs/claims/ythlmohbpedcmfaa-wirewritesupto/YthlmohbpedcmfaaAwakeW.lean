/- The awake of layer 1's statements returns true. -/
import Derived.Test.YthlmohbpedcmfaaSumW
import Derived.Test.YthlmohbpedcmfaaNumW2
namespace Go.Proofs.Ythlmohbpedcmfaa
open Go.RowKit
set_option maxRecDepth 100000 in
theorem awake_any (w : World) : Calls Try.prog 9 #[] w fun e w' => e = .returned (.bool true) ∧ Below w.heap.size w w' := by
  have hck : (crcN ({ data := #[49, 50, 51, 52, 53, 54, 55, 56, 57] } : ByteArray).data.toList : Int) = 3421780262 := by
    have := crcN_check
    exact congrArg Int.ofNat this
  have hn : str (numB 300) = { data := #[172, 2] } := by rw [numB_300]; rfl
  have HS : Hid (({ data := #[49, 50, 51, 52, 53, 54, 55, 56, 57] } : ByteArray).size ≤ maxLen) := by show 9 ≤ maxLen; decide
  go_enter Try.func9, Try.ntmps9
  go_wp2_with (first
    | (go_at_call 16; refine (sum_any _ _ HS.out).mono ?_; rintro e w1 ⟨rfl, rfl⟩; rw [hck])
    | (go_at_call 10; refine (number_any 300 _ (by decide)).mono ?_; rintro e w1 ⟨rfl, hb⟩; rw [hn]))
  go_ret
  exact ⟨rfl, hb⟩
end Go.Proofs.Ythlmohbpedcmfaa
