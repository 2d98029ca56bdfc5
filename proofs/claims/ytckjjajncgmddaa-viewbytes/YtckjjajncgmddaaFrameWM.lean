import Derived.Test.YtckjjajncgmddaaWriterWM
import Derived.Test.YtckjjajncgmddaaProg
import Derived.Laws.BitsAllLaws
import Derived.WalkKit
import Derived.WalkSpells
import Derived.WalkLawsBesides
/- What Frame returns, in the program and in the document's words: a text's bytes, and their sum's four bytes behind them. -/
namespace Go.Proofs.Ytckjjajncgmddaa
open Go.RowKit
theorem textB_len (s : ByteArray) (hs : s.size < 18446744073709551616) : (textB s.data.toList).length ≤ s.size + 10 ∧ s.size ≤ (textB s.data.toList).length := by
  have := numB_len10 hs
  unfold textB
  simp at this ⊢
  omega
theorem str_app (a : List UInt8) (s : ByteArray) : str a ++ s = str (a ++ s.data.toList) := str_append a s.data.toList
set_option maxRecDepth 100000 in
theorem reftext_any (s : ByteArray) (w : World) (hs : s.size ≤ 140737488355328) :
    Calls Try.prog 13 #[.string s] w fun e w' => e = .returned (.string (str (textB s.data.toList))) ∧ Below w.heap.size w w' := by
  have hN := refnumber_any s.size w (by omega)
  have h1 : (str (numB s.size)).size ≤ 10 := numB_len10 (by omega)
  have HE : Hid (str (numB s.size) ++ s = str (textB s.data.toList)) := by
    show _ = _
    rw [str_app]; unfold textB; simp
  go_enter Try.func13, Try.ntmps13
  go_wp2_with (go_at_call 12; refine hN.mono ?_; rintro e w1 ⟨rfl, hb⟩)
  go_ret
  rw [← HE.out]
  exact ⟨rfl, hb⟩
end Go.Proofs.Ytckjjajncgmddaa
