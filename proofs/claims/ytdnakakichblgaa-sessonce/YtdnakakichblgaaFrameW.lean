/- What Frame returns, in the program and in the document's words: a text's bytes, and their sum's four bytes behind them. -/
import Derived.Test.YtdnakakichblgaaWriterW
import Derived.Test.YtdnakakichblgaaSumW
namespace Go.Proofs.Ytdnakakichblgaa
open Go.RowKit
/-- A sum's bytes. -/
def fourB (n : Nat) : List UInt8 := [UInt8.ofNat (n % 256), UInt8.ofNat (n / 256 % 256), UInt8.ofNat (n / 65536 % 256), UInt8.ofNat (n / 16777216 % 256)]
/-- A text's frame. -/
def frameB (l : List UInt8) : List UInt8 := textB l ++ fourB (crcN (textB l))

theorem conv4 (W : World) (x0 x1 x2 x3 : Int) (n : Nat) (h0 : x0 = n % 256) (h1 : x1 = n / 256 % 256) (h2 : x2 = n / 65536 % 256) (h3 : x3 = n / 16777216 % 256) :
    (convert 65 9 (.slice (some ⟨W.heap.size, 0, none⟩) 4 4)).run Try.prog (W.alloc (.cells #[.int .u8 x0, .int .u8 x1, .int .u8 x2, .int .u8 x3] 5)) = .ok (.string (str (fourB n))) (W.alloc (.cells #[.int .u8 x0, .int .u8 x1, .int .u8 x2, .int .u8 x3] 5)) := by
  refine conv_own (base := 0) (l := fourB n) ⟨rfl, Or.inr ⟨W.heap.size, 4, _, rfl, Nat.zero_le _, heap_alloc_new _ _, Nat.le_refl _, by decide, rfl, ?_⟩⟩
  subst h0 h1 h2 h3
  simp [bc, fourB]
theorem textB_len (s : ByteArray) (hs : s.size < 18446744073709551616) : (textB s.data.toList).length ≤ s.size + 10 ∧ s.size ≤ (textB s.data.toList).length := by
  have := numB_len10 hs
  unfold textB
  simp at this ⊢
  omega
theorem str_app (a : List UInt8) (s : ByteArray) : str a ++ s = str (a ++ s.data.toList) := str_append a s.data.toList
set_option maxRecDepth 100000 in
theorem reftext_any (s : ByteArray) (w : World) (hs : s.size ≤ 140737488355328) :
    Calls Try.prog 18 #[.string s] w fun e w' => e = .returned (.string (str (textB s.data.toList))) ∧ Below w.heap.size w w' := by
  have hN := refnumber_any s.size w (by omega)
  have h1 : (str (numB s.size)).size ≤ 10 := numB_len10 (by omega)
  have HE : Hid (str (numB s.size) ++ s = str (textB s.data.toList)) := by
    show _ = _
    rw [str_app]; unfold textB; simp
  go_enter Try.func18, Try.ntmps18
  go_wp2_with (go_at_call 16; refine hN.mono ?_; rintro e w1 ⟨rfl, hb⟩)
  go_ret
  rw [← HE.out]
  exact ⟨rfl, hb⟩
end Go.Proofs.Ytdnakakichblgaa
