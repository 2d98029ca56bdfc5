/- NumBack and NumSigns: what is added and taken away again is what it was; sums and products the other way round. -/
import Derived.Test.YtpehbpehlkjdiaaNmMul
import Derived.BigQuiet
namespace Go.Proofs.Ytpehbpehlkjdiaa
open Go.RowKit

def zv (c n : Int) : Int := if c = 0 then 0 else hv n
def ze (c n : Int) : Int := if c = 0 then 21 else he n
theorem ansz_def (c n : Int) : ansz c n = .returned (.tuple #[.int .i64 (zv c n), .int .i64 (ze c n)]) := by
  unfold ansz zv ze ans; split <;> rfl
/-- A number of 64 bits with sign. -/
def I64 (a : Int) : Prop := -9223372036854775808 ≤ a ∧ a ≤ 9223372036854775807
theorem addR {a b : Int} {w : World} (ha : I64 a) (hb : I64 b) : Calls Try.prog 8 #[.int .i64 a, .int .i64 b] w fun e w' => e = .returned (.tuple #[.int .i64 (hv (a + b)), .int .i64 (he (a + b))]) ∧ w' = w :=
  add_any a b w ha.1 ha.2 hb.1 hb.2
theorem subR {a b : Int} {w : World} (ha : I64 a) (hb : I64 b) : Calls Try.prog 9 #[.int .i64 a, .int .i64 b] w fun e w' => e = .returned (.tuple #[.int .i64 (hv (a - b)), .int .i64 (he (a - b))]) ∧ w' = w :=
  sub_any a b w ha.1 ha.2 hb.1 hb.2
theorem mulR {a b : Int} {w : World} (ha : I64 a) (hb : I64 b) : Calls Try.prog 10 #[.int .i64 a, .int .i64 b] w fun e w' => e = .returned (.tuple #[.int .i64 (hv (a * b)), .int .i64 (he (a * b))]) ∧ w' = w :=
  mul_any a b w ha.1 ha.2 hb.1 hb.2
theorem divR {a b : Int} {w : World} (ha : I64 a) (hb : I64 b) : Calls Try.prog 11 #[.int .i64 a, .int .i64 b] w fun e w' => e = .returned (.tuple #[.int .i64 (zv b (a.tdiv b)), .int .i64 (ze b (a.tdiv b))]) ∧ w' = w := by
  rw [← ansz_def]; exact div_any a b w ha.1 ha.2 hb.1 hb.2
theorem ratioR {a b c : Int} {w : World} (ha : I64 a) (hb : I64 b) (hc : I64 c) : Calls Try.prog 17 #[.int .i64 a, .int .i64 b, .int .i64 c] w fun e w' => e = .returned (.tuple #[.int .i64 (zv c ((a * b).tdiv c)), .int .i64 (ze c ((a * b).tdiv c))]) ∧ Below w.heap.size w w' := by
  rw [← ansz_def]; exact ratio_any a b c w ha.1 ha.2 hb.1 hb.2 hc.1 hc.2
theorem awake_any (w : World) : Calls Try.prog 16 #[] w fun e w' => e = .returned (.bool true) ∧ w' = w := by
  have H1 : Hid (I64 2) := ⟨by decide, by decide⟩
  have H2 : Hid (I64 3) := ⟨by decide, by decide⟩
  have H3 : Hid (I64 4611686018427387904) := ⟨by decide, by decide⟩
  have e1 : hv (2 + 3) = 5 := hv_in (by decide)
  have e2 : he (2 + 3) = 0 := he_in (by decide)
  have e3 : hv (4611686018427387904 + 4611686018427387904) = 0 := hv_out (by decide)
  have e4 : he (4611686018427387904 + 4611686018427387904) = 20 := he_out (by decide)
  go_enter Try.func16, Try.ntmps16
  go_wp2_with (go_at_call 8; refine (addR (by first | exact H1.out | exact H3.out) (by first | exact H2.out | exact H3.out)).mono ?_; rintro e w1 ⟨rfl, rfl⟩; first | rw [e1, e2] | rw [e3, e4])
  go_ret
  exact ⟨rfl, rfl⟩
theorem law_back (a b : Int) (w : World) (ha : -9223372036854775808 ≤ a) (ha' : a ≤ 9223372036854775807) (hb : -9223372036854775808 ≤ b) (hb' : b ≤ 9223372036854775807) :
    Calls Try.prog 6 #[.int .i64 a, .int .i64 b] w fun e w' => e = .returned (.bool true) ∧ Below w.heap.size w w' := by
  have HA : Hid (I64 a) := ⟨ha, ha'⟩
  have HB : Hid (I64 b) := ⟨hb, hb'⟩
  obtain ⟨X, hX⟩ : ∃ X, hv (a + b) = X := ⟨_, rfl⟩
  obtain ⟨E, hE⟩ : ∃ E, he (a + b) = E := ⟨_, rfl⟩
  obtain ⟨Y, hY⟩ : ∃ Y, hv (X - b) = Y := ⟨_, rfl⟩
  obtain ⟨F, hF⟩ : ∃ F, he (X - b) = F := ⟨_, rfl⟩
  obtain ⟨Z, hZ⟩ : ∃ Z, hv (a * b) = Z := ⟨_, rfl⟩
  obtain ⟨G, hG⟩ : ∃ G, he (a * b) = G := ⟨_, rfl⟩
  obtain ⟨W, hW⟩ : ∃ W, zv b (Z.tdiv b) = W := ⟨_, rfl⟩
  obtain ⟨H, hH⟩ : ∃ H, ze b (Z.tdiv b) = H := ⟨_, rfl⟩
  obtain ⟨V, hV⟩ : ∃ V, zv b ((a * b).tdiv b) = V := ⟨_, rfl⟩
  obtain ⟨I, hI⟩ : ∃ I, ze b ((a * b).tdiv b) = I := ⟨_, rfl⟩
  have HX : Hid (I64 X) := by rw [← hX]; exact hv_bd _
  have HZ : Hid (I64 Z) := by rw [← hZ]; exact hv_bd _
  have f1 : E = 0 → F = 0 ∧ Y = a := by
    intro h0
    rcases he_cases (a + b) with ⟨h1, h2, h3⟩ | ⟨h1, h2, h3⟩
    · have : X - b = a := by omega
      rw [this] at hY hF
      exact ⟨hF.symm.trans (he_in HA.out), hY.symm.trans (hv_in HA.out)⟩
    · omega
  have f2 : b = 0 → H = 21 ∧ I = 21 := by
    intro h0
    unfold ze at hH hI
    rw [if_pos h0] at hH hI
    exact ⟨hH.symm, hI.symm⟩
  have f3 : b ≠ 0 → (G = 0 → H = 0 ∧ W = a) ∧ I = 0 ∧ V = a := by
    intro h0
    unfold zv at hW hV
    unfold ze at hH hI
    rw [if_neg h0] at hW hV hH hI
    have hc : (a * b).tdiv b = a := Int.mul_tdiv_cancel a h0
    rw [hc] at hV hI
    refine ⟨?_, hI.symm.trans (he_in HA.out), hV.symm.trans (hv_in HA.out)⟩
    intro h1
    rcases he_cases (a * b) with ⟨h2, h3, h4⟩ | ⟨h2, h3, h4⟩
    · rw [← hZ, h3, hc] at hW hH
      exact ⟨hH.symm.trans (he_in HA.out), hW.symm.trans (hv_in HA.out)⟩
    · omega
  clear ha ha' hb hb'
  by_cases hE0 : E = 0
  · obtain ⟨hF0, hY0⟩ := f1 hE0
    by_cases hb0 : b = 0
    · obtain ⟨hH0, hI0⟩ := f2 hb0
      clear f1 f2 f3
      subst hb0
      go_enter Try.func6, Try.ntmps6
      go_wp2_with (first
        | (go_at_call 8; refine (addR HA.out HB.out).mono ?_; rintro e w1 ⟨rfl, rfl⟩; rw [hX, hE])
        | (go_at_call 9; refine (subR HX.out HB.out).mono ?_; rintro e w1 ⟨rfl, rfl⟩; rw [hY, hF])
        | (go_at_call 10; refine (mulR HA.out HB.out).mono ?_; rintro e w1 ⟨rfl, rfl⟩; rw [hZ, hG])
        | (go_at_call 11; refine (divR HZ.out HB.out).mono ?_; rintro e w1 ⟨rfl, rfl⟩; rw [hW, hH])
        | (go_at_call 17; refine (ratioR HA.out HB.out HB.out).mono ?_; rintro e w2 ⟨rfl, hb2⟩; rw [hV, hI])
        | (go_at_call 16; refine (awake_any _).mono ?_; rintro e w3 ⟨rfl, rfl⟩))
      all_goals (go_ret; exact ⟨rfl, hb2⟩)
    · obtain ⟨f4, hI0, hV0⟩ := f3 hb0
      by_cases hG0 : G = 0
      · obtain ⟨hH0, hW0⟩ := f4 hG0
        clear f1 f2 f3 f4
        go_enter Try.func6, Try.ntmps6
        go_wp2_with (first
          | (go_at_call 8; refine (addR HA.out HB.out).mono ?_; rintro e w1 ⟨rfl, rfl⟩; rw [hX, hE])
          | (go_at_call 9; refine (subR HX.out HB.out).mono ?_; rintro e w1 ⟨rfl, rfl⟩; rw [hY, hF])
          | (go_at_call 10; refine (mulR HA.out HB.out).mono ?_; rintro e w1 ⟨rfl, rfl⟩; rw [hZ, hG])
          | (go_at_call 11; refine (divR HZ.out HB.out).mono ?_; rintro e w1 ⟨rfl, rfl⟩; rw [hW, hH])
          | (go_at_call 17; refine (ratioR HA.out HB.out HB.out).mono ?_; rintro e w2 ⟨rfl, hb2⟩; rw [hV, hI])
          | (go_at_call 16; refine (awake_any _).mono ?_; rintro e w3 ⟨rfl, rfl⟩))
        all_goals (go_ret; exact ⟨rfl, hb2⟩)
      · clear f1 f2 f3 f4
        go_enter Try.func6, Try.ntmps6
        go_wp2_with (first
          | (go_at_call 8; refine (addR HA.out HB.out).mono ?_; rintro e w1 ⟨rfl, rfl⟩; rw [hX, hE])
          | (go_at_call 9; refine (subR HX.out HB.out).mono ?_; rintro e w1 ⟨rfl, rfl⟩; rw [hY, hF])
          | (go_at_call 10; refine (mulR HA.out HB.out).mono ?_; rintro e w1 ⟨rfl, rfl⟩; rw [hZ, hG])
          | (go_at_call 11; refine (divR HZ.out HB.out).mono ?_; rintro e w1 ⟨rfl, rfl⟩; rw [hW, hH])
          | (go_at_call 17; refine (ratioR HA.out HB.out HB.out).mono ?_; rintro e w2 ⟨rfl, hb2⟩; rw [hV, hI])
          | (go_at_call 16; refine (awake_any _).mono ?_; rintro e w3 ⟨rfl, rfl⟩))
        all_goals (go_ret; exact ⟨rfl, hb2⟩)
  · by_cases hb0 : b = 0
    · obtain ⟨hH0, hI0⟩ := f2 hb0
      clear f1 f2 f3
      subst hb0
      go_enter Try.func6, Try.ntmps6
      go_wp2_with (first
        | (go_at_call 8; refine (addR HA.out HB.out).mono ?_; rintro e w1 ⟨rfl, rfl⟩; rw [hX, hE])
        | (go_at_call 9; refine (subR HX.out HB.out).mono ?_; rintro e w1 ⟨rfl, rfl⟩; rw [hY, hF])
        | (go_at_call 10; refine (mulR HA.out HB.out).mono ?_; rintro e w1 ⟨rfl, rfl⟩; rw [hZ, hG])
        | (go_at_call 11; refine (divR HZ.out HB.out).mono ?_; rintro e w1 ⟨rfl, rfl⟩; rw [hW, hH])
        | (go_at_call 17; refine (ratioR HA.out HB.out HB.out).mono ?_; rintro e w2 ⟨rfl, hb2⟩; rw [hV, hI])
        | (go_at_call 16; refine (awake_any _).mono ?_; rintro e w3 ⟨rfl, rfl⟩))
      all_goals (go_ret; exact ⟨rfl, hb2⟩)
    · obtain ⟨f4, hI0, hV0⟩ := f3 hb0
      by_cases hG0 : G = 0
      · obtain ⟨hH0, hW0⟩ := f4 hG0
        clear f1 f2 f3 f4
        go_enter Try.func6, Try.ntmps6
        go_wp2_with (first
          | (go_at_call 8; refine (addR HA.out HB.out).mono ?_; rintro e w1 ⟨rfl, rfl⟩; rw [hX, hE])
          | (go_at_call 9; refine (subR HX.out HB.out).mono ?_; rintro e w1 ⟨rfl, rfl⟩; rw [hY, hF])
          | (go_at_call 10; refine (mulR HA.out HB.out).mono ?_; rintro e w1 ⟨rfl, rfl⟩; rw [hZ, hG])
          | (go_at_call 11; refine (divR HZ.out HB.out).mono ?_; rintro e w1 ⟨rfl, rfl⟩; rw [hW, hH])
          | (go_at_call 17; refine (ratioR HA.out HB.out HB.out).mono ?_; rintro e w2 ⟨rfl, hb2⟩; rw [hV, hI])
          | (go_at_call 16; refine (awake_any _).mono ?_; rintro e w3 ⟨rfl, rfl⟩))
        all_goals (go_ret; exact ⟨rfl, hb2⟩)
      · clear f1 f2 f3 f4
        go_enter Try.func6, Try.ntmps6
        go_wp2_with (first
          | (go_at_call 8; refine (addR HA.out HB.out).mono ?_; rintro e w1 ⟨rfl, rfl⟩; rw [hX, hE])
          | (go_at_call 9; refine (subR HX.out HB.out).mono ?_; rintro e w1 ⟨rfl, rfl⟩; rw [hY, hF])
          | (go_at_call 10; refine (mulR HA.out HB.out).mono ?_; rintro e w1 ⟨rfl, rfl⟩; rw [hZ, hG])
          | (go_at_call 11; refine (divR HZ.out HB.out).mono ?_; rintro e w1 ⟨rfl, rfl⟩; rw [hW, hH])
          | (go_at_call 17; refine (ratioR HA.out HB.out HB.out).mono ?_; rintro e w2 ⟨rfl, hb2⟩; rw [hV, hI])
          | (go_at_call 16; refine (awake_any _).mono ?_; rintro e w3 ⟨rfl, rfl⟩))
        all_goals (go_ret; exact ⟨rfl, hb2⟩)
end Go.Proofs.Ytpehbpehlkjdiaa
