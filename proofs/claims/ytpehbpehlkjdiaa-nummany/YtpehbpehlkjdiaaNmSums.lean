/- NumSums and NumRatios: the program's answers are the reference's. -/
import Derived.Test.YtpehbpehlkjdiaaNmRef
namespace Go.Proofs.Ytpehbpehlkjdiaa
open Go.RowKit
theorem raddR {a b : Int} {w : World} (ha : I64 a) (hb : I64 b) : Calls Try.prog 12 #[.int .i64 a, .int .i64 b] w fun e w' => e = .returned (.tuple #[.int .i64 (hv (a + b)), .int .i64 (he (a + b))]) ∧ w' = w :=
  refadd_any a b w ha.1 ha.2 hb.1 hb.2
theorem rsubR {a b : Int} {w : World} (ha : I64 a) (hb : I64 b) : Calls Try.prog 13 #[.int .i64 a, .int .i64 b] w fun e w' => e = .returned (.tuple #[.int .i64 (hv (a - b)), .int .i64 (he (a - b))]) ∧ w' = w :=
  refsub_any a b w ha.1 ha.2 hb.1 hb.2
theorem rmulR {a b : Int} {w : World} (ha : I64 a) (hb : I64 b) : Calls Try.prog 14 #[.int .i64 a, .int .i64 b] w fun e w' => e = .returned (.tuple #[.int .i64 (hv (a * b)), .int .i64 (he (a * b))]) ∧ Below w.heap.size w w' :=
  refmul_any a b w ha.1 ha.2 hb.1 hb.2
theorem rdivR {a b : Int} {w : World} (ha : I64 a) (hb : I64 b) : Calls Try.prog 15 #[.int .i64 a, .int .i64 b] w fun e w' => e = .returned (.tuple #[.int .i64 (zv b (a.tdiv b)), .int .i64 (ze b (a.tdiv b))]) ∧ w' = w := by
  rw [← ansz_def]; exact refdiv_any a b w ha.1 ha.2 hb.1 hb.2
theorem rratioR {a b c : Int} {w : World} (ha : I64 a) (hb : I64 b) (hc : I64 c) : Calls Try.prog 18 #[.int .i64 a, .int .i64 b, .int .i64 c] w fun e w' => e = .returned (.tuple #[.int .i64 (zv c ((a * b).tdiv c)), .int .i64 (ze c ((a * b).tdiv c))]) ∧ Below w.heap.size w w' := by
  rw [← ansz_def]; exact refratio_any a b c w ha.1 ha.2 hb.1 hb.2 hc.1 hc.2

theorem law_sums (a b : Int) (w : World) (ha : -9223372036854775808 ≤ a) (ha' : a ≤ 9223372036854775807) (hb : -9223372036854775808 ≤ b) (hb' : b ≤ 9223372036854775807) :
    Calls Try.prog 3 #[.int .i64 a, .int .i64 b] w fun e w' => e = .returned (.bool true) ∧ Below w.heap.size w w' := by
  have HA : Hid (I64 a) := ⟨ha, ha'⟩
  have HB : Hid (I64 b) := ⟨hb, hb'⟩
  obtain ⟨X, hX⟩ : ∃ X, hv (a + b) = X := ⟨_, rfl⟩
  obtain ⟨E, hE⟩ : ∃ E, he (a + b) = E := ⟨_, rfl⟩
  obtain ⟨Y, hY⟩ : ∃ Y, hv (a - b) = Y := ⟨_, rfl⟩
  obtain ⟨F, hF⟩ : ∃ F, he (a - b) = F := ⟨_, rfl⟩
  obtain ⟨Z, hZ⟩ : ∃ Z, hv (a * b) = Z := ⟨_, rfl⟩
  obtain ⟨G, hG⟩ : ∃ G, he (a * b) = G := ⟨_, rfl⟩
  obtain ⟨W, hW⟩ : ∃ W, zv b (a.tdiv b) = W := ⟨_, rfl⟩
  obtain ⟨H, hH⟩ : ∃ H, ze b (a.tdiv b) = H := ⟨_, rfl⟩
  clear ha ha' hb hb'
  go_enter Try.func3, Try.ntmps3
  go_wp2_with (first
    | (go_at_call 8; refine (addR HA.out HB.out).mono ?_; rintro e w1 ⟨rfl, rfl⟩; rw [hX, hE])
    | (go_at_call 9; refine (subR HA.out HB.out).mono ?_; rintro e w1 ⟨rfl, rfl⟩; rw [hY, hF])
    | (go_at_call 10; refine (mulR HA.out HB.out).mono ?_; rintro e w1 ⟨rfl, rfl⟩; rw [hZ, hG])
    | (go_at_call 11; refine (divR HA.out HB.out).mono ?_; rintro e w1 ⟨rfl, rfl⟩; rw [hW, hH])
    | (go_at_call 12; refine (raddR HA.out HB.out).mono ?_; rintro e w1 ⟨rfl, rfl⟩; rw [hX, hE])
    | (go_at_call 13; refine (rsubR HA.out HB.out).mono ?_; rintro e w1 ⟨rfl, rfl⟩; rw [hY, hF])
    | (go_at_call 14; refine (rmulR HA.out HB.out).mono ?_; rintro e w2 ⟨rfl, hb2⟩; rw [hZ, hG])
    | (go_at_call 15; refine (rdivR HA.out HB.out).mono ?_; rintro e w3 ⟨rfl, rfl⟩; rw [hW, hH])
    | (go_at_call 16; refine (awake_any _).mono ?_; rintro e w3 ⟨rfl, rfl⟩))
  go_ret
  exact ⟨rfl, hb2⟩

theorem law_ratios (a b c : Int) (w : World) (ha : -9223372036854775808 ≤ a) (ha' : a ≤ 9223372036854775807) (hb : -9223372036854775808 ≤ b) (hb' : b ≤ 9223372036854775807) (hc : -9223372036854775808 ≤ c) (hc' : c ≤ 9223372036854775807) :
    Calls Try.prog 4 #[.int .i64 a, .int .i64 b, .int .i64 c] w fun e w' => e = .returned (.bool true) ∧ Below w.heap.size w w' := by
  have HA : Hid (I64 a) := ⟨ha, ha'⟩
  have HB : Hid (I64 b) := ⟨hb, hb'⟩
  have HC : Hid (I64 c) := ⟨hc, hc'⟩
  obtain ⟨W, hW⟩ : ∃ W, zv c ((a * b).tdiv c) = W := ⟨_, rfl⟩
  obtain ⟨H, hH⟩ : ∃ H, ze c ((a * b).tdiv c) = H := ⟨_, rfl⟩
  clear ha ha' hb hb' hc hc'
  go_enter Try.func4, Try.ntmps4
  go_wp2_with (first
    | (go_at_call 17; refine (ratioR HA.out HB.out HC.out).mono ?_; rintro e w1 ⟨rfl, hb1⟩; rw [hW, hH])
    | (go_at_call 18; refine (rratioR HA.out HB.out HC.out).mono ?_; rintro e w2 ⟨rfl, hb2⟩; rw [hW, hH])
    | (go_at_call 16; refine (awake_any _).mono ?_; rintro e w3 ⟨rfl, rfl⟩))
  go_ret
  exact ⟨rfl, hb1.trans (hb2.mono hb1.size)⟩
end Go.Proofs.Ytpehbpehlkjdiaa
