/- What put does with a nil writer, and what nil readers and writers answer. -/
import Derived.Test.YthlmohbpedcmfaaAwakeW
import Derived.Test.YthlmohbpedcmfaaFrameW
namespace Go.Proofs.Ythlmohbpedcmfaa
open Go.RowKit
theorem wrap_i64_bd (x : Nat) : -9223372036854775808 ≤ wrap64 (x : Int) ∧ wrap64 (x : Int) ≤ 9223372036854775807 := by
  unfold wrap64; omega
theorem refsigned_any (k : Int) (w : World) (h1 : -9223372036854775808 ≤ k) (h2 : k ≤ 9223372036854775807) :
    Calls Try.prog 54 #[.int .i64 k] w fun e w' => e = .returned (.string (str (numB (foldN k).toNat))) ∧ Below w.heap.size w w' := by
  obtain ⟨m, HM⟩ : ∃ m : Nat, Hid (foldN k = m) := ⟨(foldN k).toNat, (Int.toNat_of_nonneg (fold_bd k h1 h2).1).symm⟩
  have hm : m < 18446744073709551616 := by have := fold_bd k h1 h2; have := HM.out; omega
  have hF : ∀ w, Calls Try.prog 13 #[.int .i64 k] w fun e w' => e = .returned (.int .u64 m) ∧ w' = w := fun w => by have := reffold_any k w h1 h2; rw [HM.out] at this; exact this
  rw [show (foldN k).toNat = m by rw [HM.out]; rfl]
  go_enter Try.func54, Try.ntmps54
  go_wp2_with (first
    | (go_at_call 13; refine (hF _).mono ?_; rintro r w1 ⟨rfl, rfl⟩)
    | (go_at_call 11; refine (refnumber_any m _ hm).mono ?_; rintro r w2 ⟨rfl, hh⟩))
  go_ret
  exact ⟨rfl, hh⟩
theorem nb (s : ByteArray) (w : World) : Calls Try.prog 51 #[.pointer none, .string s] w fun r w' => r = .returned (.tuple #[]) ∧ w' = w := by
  go_enter Try.func51, Try.ntmps51
  go_wp2
  exact bodyPost_ret (v := .tuple #[]) (by simp [results, Try.results51, go_sem]) rfl ⟨rfl, rfl⟩
theorem nn (x : Int) (w : World) : Calls Try.prog 52 #[.pointer none, .int .u64 x] w fun r w' => r = .returned (.tuple #[]) ∧ w' = w := by
  go_enter Try.func52, Try.ntmps52
  go_wp2
  exact bodyPost_ret (v := .tuple #[]) (by simp [results, Try.results52, go_sem]) rfl ⟨rfl, rfl⟩
theorem ns (k : Int) (w : World) (h1 : -9223372036854775808 ≤ k) (h2 : k ≤ 9223372036854775807) : Calls Try.prog 53 #[.pointer none, .int .i64 k] w fun r w' => r = .returned (.tuple #[]) ∧ w' = w := by
  go_enter Try.func53, Try.ntmps53
  go_wp2_with (first | (go_at_call 12; refine (fold_any k _ h1 h2).mono ?_; rintro e w1 ⟨rfl, rfl⟩) | (go_at_call 52; refine (nn _ _).mono ?_; rintro e w1 ⟨rfl, rfl⟩))
  go_end0
  exact ⟨rfl, rfl⟩
theorem nc (x : Int) (w : World) : Calls Try.prog 55 #[.pointer none, .int .i64 x] w fun r w' => r = .returned (.tuple #[]) ∧ w' = w := by
  go_enter Try.func55, Try.ntmps55
  go_wp2_with (first | (go_at_call 52; refine (nn _ _).mono ?_; rintro e w1 ⟨rfl, rfl⟩))
  go_end0
  exact ⟨rfl, rfl⟩
theorem nt (s : ByteArray) (w : World) : Calls Try.prog 44 #[.pointer none, .string s] w fun r w' => r = .returned (.tuple #[]) ∧ w' = w := by
  go_enter Try.func44, Try.ntmps44
  go_wp2_with (first | (go_at_call 55; refine (nc _ _).mono ?_; rintro e w1 ⟨rfl, rfl⟩) | (go_at_call 51; refine (nb _ _).mono ?_; rintro e w1 ⟨rfl, rfl⟩))
  go_end0
  exact ⟨rfl, rfl⟩
theorem nbo (b : Bool) (w : World) : Calls Try.prog 56 #[.pointer none, .bool b] w fun r w' => r = .returned (.tuple #[]) ∧ w' = w := by
  cases b with
  | false =>
    go_enter Try.func56, Try.ntmps56
    go_wp2_with (go_at_call 52; refine (nn _ _).mono ?_; rintro e w1 ⟨rfl, rfl⟩)
    go_end0
    exact ⟨rfl, rfl⟩
  | true =>
    go_enter Try.func56, Try.ntmps56
    go_wp2_with (go_at_call 52; refine (nn _ _).mono ?_; rintro e w1 ⟨rfl, rfl⟩)
    go_end0
    exact ⟨rfl, rfl⟩
theorem nle (w : World) : Calls Try.prog 29 #[.pointer none] w fun r w' => r = .returned (.int .i64 0) ∧ w' = w := by
  go_enter Try.func29, Try.ntmps29
  go_wp2
  go_ret
  exact ⟨rfl, rfl⟩
theorem nal (w : World) : Calls Try.prog 30 #[.pointer none] w fun r w' => r = .returned (.string ByteArray.empty) ∧ w' = w := by
  go_enter Try.func30, Try.ntmps30
  go_wp2
  go_ret
  exact ⟨rfl, rfl⟩
theorem re (w : World) : Calls Try.prog 24 #[.pointer none] w fun r w' => r = .returned (.int .i64 1) ∧ w' = w := by
  go_enter Try.func24, Try.ntmps24
  go_wp2
  go_ret
  exact ⟨rfl, rfl⟩
theorem ra (w : World) : Calls Try.prog 25 #[.pointer none] w fun r w' => r = .returned (.int .i64 0) ∧ w' = w := by
  go_enter Try.func25, Try.ntmps25
  go_wp2
  go_ret
  exact ⟨rfl, rfl⟩
theorem rl (w : World) : Calls Try.prog 26 #[.pointer none] w fun r w' => r = .returned (.int .i64 0) ∧ w' = w := by
  go_enter Try.func26, Try.ntmps26
  go_wp2
  go_ret
  exact ⟨rfl, rfl⟩
theorem rf (x : Int) (w : World) : Calls Try.prog 37 #[.pointer none, .int .i64 x] w fun r w' => r = .returned (.tuple #[]) ∧ w' = w := by
  go_enter Try.func37, Try.ntmps37
  go_wp2_with (first | (go_at_call 24; refine (re _).mono ?_; rintro e w1 ⟨rfl, rfl⟩))
  go_end0
  exact ⟨rfl, rfl⟩
theorem rb (x : Int) (w : World) : Calls Try.prog 31 #[.pointer none, .int .i64 x] w fun r w' => r = .returned (.string ByteArray.empty) ∧ w' = w := by
  go_enter Try.func31, Try.ntmps31
  go_wp2_with (first | (go_at_call 24; refine (re _).mono ?_; rintro e w1 ⟨rfl, rfl⟩))
  go_ret
  exact ⟨rfl, rfl⟩
theorem rnx (w : World) : Calls Try.prog 57 #[.pointer none] w fun r w' => r = .returned (.tuple #[.int .u64 0, .int .i64 0, .bool false]) ∧ w' = w := by
  go_enter Try.func57, Try.ntmps57
  go_wp2_with (first | (go_at_call 24; refine (re _).mono ?_; rintro e w1 ⟨rfl, rfl⟩))
  go_ret3
  exact ⟨rfl, rfl⟩
theorem rn (w : World) : Calls Try.prog 32 #[.pointer none] w fun r w' => r = .returned (.int .u64 0) ∧ w' = w := by
  go_enter Try.func32, Try.ntmps32
  go_wp2_with (first | (go_at_call 57; refine (rnx _).mono ?_; rintro e w1 ⟨rfl, rfl⟩))
  go_ret
  exact ⟨rfl, rfl⟩
theorem rs (w : World) : Calls Try.prog 33 #[.pointer none] w fun r w' => r = .returned (.int .i64 0) ∧ w' = w := by
  have hU := fun w => unfold_any 0 w (by decide) (by decide)
  rw [show unfoldN 0 = 0 from rfl] at hU
  go_enter Try.func33, Try.ntmps33
  go_wp2_with (first | (go_at_call 32; refine (rn _).mono ?_; rintro e w1 ⟨rfl, rfl⟩) | (go_at_call 14; refine (hU _).mono ?_; rintro e w1 ⟨rfl, rfl⟩))
  go_ret
  exact ⟨rfl, rfl⟩
theorem rc (x : Int) (w : World) : Calls Try.prog 38 #[.pointer none, .int .i64 x] w fun r w' => r = .returned (.int .i64 0) ∧ w' = w := by
  go_enter Try.func38, Try.ntmps38
  go_wp2_with (first | (go_at_call 57; refine (rnx _).mono ?_; rintro e w1 ⟨rfl, rfl⟩))
  go_ret
  exact ⟨rfl, rfl⟩
theorem rt (w : World) : Calls Try.prog 34 #[.pointer none] w fun r w' => r = .returned (.string ByteArray.empty) ∧ w' = w := by
  go_enter Try.func34, Try.ntmps34
  go_wp2_with (first | (go_at_call 57; refine (rnx _).mono ?_; rintro e w1 ⟨rfl, rfl⟩))
  go_ret
  exact ⟨rfl, rfl⟩
theorem rbo (w : World) : Calls Try.prog 35 #[.pointer none] w fun r w' => r = .returned (.bool false) ∧ w' = w := by
  go_enter Try.func35, Try.ntmps35
  go_wp2_with (first | (go_at_call 57; refine (rnx _).mono ?_; rintro e w1 ⟨rfl, rfl⟩))
  go_ret
  exact ⟨rfl, rfl⟩
theorem ren (w : World) : Calls Try.prog 36 #[.pointer none] w fun r w' => r = .returned (.int .i64 1) ∧ w' = w := by
  go_enter Try.func36, Try.ntmps36
  go_wp2_with (first | (go_at_call 26; refine (rl _).mono ?_; rintro e w1 ⟨rfl, rfl⟩) | (go_at_call 24; refine (re _).mono ?_; rintro e w1 ⟨rfl, rfl⟩))
  go_ret
  exact ⟨rfl, rfl⟩
set_option maxRecDepth 100000 in
set_option maxHeartbeats 1000000 in
theorem put_nil (k n : Int) (x : Nat) (s : ByteArray) (w : World) (hn : -9223372036854775808 ≤ n) (hn' : n ≤ 9223372036854775807) (hx : x < 18446744073709551616) (hs : s.size + 4096 ≤ 140737488355328) :
    Calls Try.prog 28 #[.pointer none, .agg #[.int .i64 k, .int .i64 n, .int .u64 x, .string s]] w fun r w' => (∃ t, r = .returned (.string t)) ∧ Below w.heap.size w w' := by
  have HX : Hid (x < 18446744073709551616) := hx
  have HT : Hid (s.size ≤ 140737488355328) := by show _ ≤ _; omega
  have ha := fun o => (Below.refl w.heap.size w).alloc (Nat.le_refl _) o
  rcases (show k = 0 ∨ k = 1 ∨ k = 2 ∨ k = 3 ∨ k = 4 ∨ (k ≠ 0 ∧ k ≠ 1 ∧ k ≠ 2 ∧ k ≠ 3 ∧ k ≠ 4) from by omega) with rfl | rfl | rfl | rfl | rfl | ⟨h0, h1, h2, h3, h4⟩
  · go_enter Try.func28, Try.ntmps28
    go_wp2_with (first | (go_at_call 51; refine (nb _ _).mono ?_; rintro e w1 ⟨rfl, rfl⟩))
    go_ret
    exact ⟨⟨_, rfl⟩, ha _⟩
  · go_enter Try.func28, Try.ntmps28
    go_wp2_with (first | (go_at_call 52; refine (nn _ _).mono ?_; rintro e w1 ⟨rfl, rfl⟩) | (go_at_call 11; refine (refnumber_any x _ HX.out).mono ?_; rintro e w1 ⟨rfl, hb1⟩))
    go_ret
    exact ⟨⟨_, rfl⟩, (ha _).trans (hb1.mono (ha _).size)⟩
  · have hw := wrap_i64_bd x
    go_enter Try.func28, Try.ntmps28
    go_wp2_with (first | (go_at_call 53; refine (ns _ _ hw.1 hw.2).mono ?_; rintro e w1 ⟨rfl, rfl⟩) | (go_at_call 54; refine (refsigned_any _ _ hw.1 hw.2).mono ?_; rintro e w1 ⟨rfl, hb1⟩))
    go_ret
    exact ⟨⟨_, rfl⟩, (ha _).trans (hb1.mono (ha _).size)⟩
  · by_cases hneg : n < 0
    · go_enter Try.func28, Try.ntmps28
      go_wp2_with (first | (go_at_call 55; refine (nc _ _).mono ?_; rintro e w1 ⟨rfl, rfl⟩) | (go_at_call 11; refine (refnumber_any 0 _ (by decide)).mono ?_; rintro e w1 ⟨rfl, hb1⟩))
      go_ret
      exact ⟨⟨_, rfl⟩, (ha _).trans (hb1.mono (ha _).size)⟩
    · obtain ⟨m, rfl⟩ : ∃ m : Nat, n = m := ⟨n.toNat, by omega⟩
      have HM : Hid (m < 18446744073709551616) := by show _ < _; omega
      go_enter Try.func28, Try.ntmps28
      go_wp2_with (first | (go_at_call 55; refine (nc _ _).mono ?_; rintro e w1 ⟨rfl, rfl⟩) | (go_at_call 11; refine (refnumber_any m _ HM.out).mono ?_; rintro e w1 ⟨rfl, hb1⟩))
      go_ret
      exact ⟨⟨_, rfl⟩, (ha _).trans (hb1.mono (ha _).size)⟩
  · go_enter Try.func28, Try.ntmps28
    go_wp2_with (first | (go_at_call 44; refine (nt _ _).mono ?_; rintro e w1 ⟨rfl, rfl⟩) | (go_at_call 45; refine (reftext_any s _ HT.out).mono ?_; rintro e w1 ⟨rfl, hb1⟩))
    go_ret
    exact ⟨⟨_, rfl⟩, (ha _).trans (hb1.mono (ha _).size)⟩
  · have k0 : (k == 0) = false := by simp; omega
    have k1 : (k == 1) = false := by simp; omega
    have k2 : (k == 2) = false := by simp; omega
    have k3 : (k == 3) = false := by simp; omega
    have k4 : (k == 4) = false := by simp; omega
    obtain ⟨y, HY, hy⟩ : ∃ y : Nat, Hid (y < 18446744073709551616) ∧ (x : Int) % 2 = y := ⟨x % 2, (by show _ < _; omega), by omega⟩
    clear h0 h1 h2 h3 h4
    go_enter Try.func28, Try.ntmps28
    go_wp2_with (first | (go_at_call 56; refine (nbo _ _).mono ?_; rintro e w1 ⟨rfl, rfl⟩) | (go_at_call 11; refine (refnumber_any y _ HY.out).mono ?_; rintro e w1 ⟨rfl, hb1⟩))
    go_ret
    exact ⟨⟨_, rfl⟩, (ha _).trans (hb1.mono (ha _).size)⟩
end Go.Proofs.Ythlmohbpedcmfaa
