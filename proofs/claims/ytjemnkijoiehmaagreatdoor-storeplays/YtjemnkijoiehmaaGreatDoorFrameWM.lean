import Derived.Test.YtjemnkijoiehmaaGreatDoorWriterWM
import Derived.Test.YtjemnkijoiehmaaGreatDoorSumWM
/- What Frame returns, in the program and in the document's words: a text's bytes, and their sum's four bytes behind them. -/
namespace Go.Proofs.YtjemnkijoiehmaaGreatDoor
open Go.RowKit
/-- A sum's bytes. -/
def fourB (n : Nat) : List UInt8 := [UInt8.ofNat (n % 256), UInt8.ofNat (n / 256 % 256), UInt8.ofNat (n / 65536 % 256), UInt8.ofNat (n / 16777216 % 256)]
/-- A text's frame. -/
def frameB (l : List UInt8) : List UInt8 := textB l ++ fourB (crcN (textB l))

theorem conv4 (W : World) (x0 x1 x2 x3 : Int) (n : Nat) (h0 : x0 = n % 256) (h1 : x1 = n / 256 % 256) (h2 : x2 = n / 65536 % 256) (h3 : x3 = n / 16777216 % 256) :
    (convert 119 9 (.slice (some ⟨W.heap.size, 0, none⟩) 4 4)).run Tryz.prog (W.alloc (.cells #[.int .u8 x0, .int .u8 x1, .int .u8 x2, .int .u8 x3] 5)) = .ok (.string (str (fourB n))) (W.alloc (.cells #[.int .u8 x0, .int .u8 x1, .int .u8 x2, .int .u8 x3] 5)) := by
  refine conv_own (base := 0) (l := fourB n) ⟨rfl, Or.inr ⟨W.heap.size, 4, _, rfl, Nat.zero_le _, heap_alloc_new _ _, Nat.le_refl _, by decide, rfl, ?_⟩⟩
  subst h0 h1 h2 h3
  simp [bc, fourB]
set_option maxRecDepth 100000 in
theorem sumbytes_any (s : ByteArray) (w : World) (hs : s.size ≤ maxLen) :
    Calls Tryz.prog 51 #[.string s] w fun e w' => e = .returned (.string (str (fourB (crcN s.data.toList)))) ∧ Below w.heap.size w w' := by
  have hl := crcN_lt s.data.toList
  have hS := sum_any s w hs
  generalize crcN s.data.toList = c at hl hS
  have hc := fun W => conv4 W ((c : Int) % 256) ((c : Int) / 256 % 256) ((c : Int) / 65536 % 256) ((c : Int) / 16777216) c rfl rfl rfl (by omega)
  go_enter Tryz.func51, Tryz.ntmps51
  go_wp2_with (go_at_call 30; refine hS.mono ?_; rintro e w1 ⟨rfl, rfl⟩)
  go_ret
  exact ⟨rfl, (Below.refl _ _).alloc (Nat.le_refl _) _⟩
theorem textB_len (s : ByteArray) (hs : s.size < 18446744073709551616) : (textB s.data.toList).length ≤ s.size + 10 ∧ s.size ≤ (textB s.data.toList).length := by
  have := numB_len10 hs
  unfold textB
  simp at this ⊢
  omega
set_option maxRecDepth 100000 in
theorem frame_any (s : ByteArray) (w : World) (hs : s.size + 10 ≤ 140737488355328) :
    Calls Tryz.prog 33 #[.string s] w fun e w' => e = .returned (.string (str (frameB s.data.toList))) ∧ Below w.heap.size w w' := by
  have hl := textB_len s (by omega)
  have HE : Hid (str (textB s.data.toList) ++ str (fourB (crcN (textB s.data.toList))) = str (frameB s.data.toList)) := str_append _ _
  have h1 : (str (textB s.data.toList)).size ≤ 140737488355328 := by rw [str_size]; omega
  have h2 : (str (fourB (crcN (textB s.data.toList)))).size ≤ 4 := Nat.le_refl _
  have HM : Hid ((str (textB s.data.toList)).size ≤ maxLen) := by show _ ≤ _; unfold maxLen; omega
  have hB := fun w => sumbytes_any (str (textB s.data.toList)) w HM.out
  rw [str_list] at hB
  have HR : Hid (([] : List UInt8).length + s.size + 10 ≤ 140737488355328) := by show _ ≤ _; simp; omega
  clear hl
  go_enter Tryz.func33, Tryz.ntmps33
  go_wp2_with (first
    | (go_at_call 53; refine (newwriter_any _).mono ?_; rintro e w1 ⟨rfl, hw1, hb1⟩)
    | (go_at_call 54; refine (wtext_any s hw1 HR.out).mono ?_; rintro e w2 ⟨rfl, v2, hw2, hf2, hr2⟩)
    | (go_at_call 55; refine (wall_any hw2).mono ?_; rintro e w3 ⟨rfl, rfl⟩)
    | (go_at_call 51; refine (hB _).mono ?_; rintro e w4 ⟨rfl, hb4⟩))
  go_ret
  rw [← HE.out]
  have hb2 : Below w.heap.size w1 w3 := hf2.below hb1.size (fun k hk => by
    rcases hk with rfl | hk
    · exact Nat.le_refl _
    · simp [Value.ownBlock] at hk)
  exact ⟨rfl, (hb1.trans hb2).trans (hb4.mono (hb1.trans hb2).size)⟩
end Go.Proofs.YtjemnkijoiehmaaGreatDoor
