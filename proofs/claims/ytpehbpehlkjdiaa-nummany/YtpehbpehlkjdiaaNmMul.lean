/- num.Mul and num.Ratio at any numbers. -/
import Derived.Test.YtpehbpehlkjdiaaNmDiv
namespace Go.Proofs.Ytpehbpehlkjdiaa
open Go.RowKit

/-- A size and a sign give the product back. -/
theorem sizes_same {a b : Int} (h : (a < 0 ∧ b < 0) ∨ (0 ≤ a ∧ 0 ≤ b)) : ((a.natAbs * b.natAbs : Nat) : Int) = a * b := by
  rw [Int.natCast_mul]
  rcases h with ⟨h1, h2⟩ | ⟨h1, h2⟩
  · rw [show (a.natAbs : Int) = -a by omega, show (b.natAbs : Int) = -b by omega, Int.neg_mul_neg]
  · rw [show (a.natAbs : Int) = a by omega, show (b.natAbs : Int) = b by omega]
theorem sizes_other {a b : Int} (h : (a < 0 ∧ 0 ≤ b) ∨ (0 ≤ a ∧ b < 0)) : ((a.natAbs * b.natAbs : Nat) : Int) = -(a * b) := by
  rw [Int.natCast_mul]
  rcases h with ⟨h1, h2⟩ | ⟨h1, h2⟩
  · rw [show (a.natAbs : Int) = -a by omega, show (b.natAbs : Int) = b by omega, Int.neg_mul]
  · rw [show (a.natAbs : Int) = a by omega, show (b.natAbs : Int) = -b by omega, Int.mul_neg]
theorem sizes_abs (a b : Int) : a.natAbs * b.natAbs = (a * b).natAbs := (Int.natAbs_mul a b).symm

/-- A size with a sign. -/
def sg (n : Int) (g : Bool) : Int := if g then -n else n
theorem ans_def (n : Int) : ans n = .returned (.tuple #[.int .i64 (hv n), .int .i64 (he n)]) := rfl
theorem signed_any (n : Int) (g : Bool) (w : World) (hn0 : 0 ≤ n) (hn : n < 18446744073709551616) :
    Calls Try.prog 23 #[.int .u64 n, .bool g] w fun e w' => e = .returned (.tuple #[.int .i64 (hv (sg n g)), .int .i64 (he (sg n g))]) ∧ w' = w := by
  cases g
  · exact signed_any_pos n w hn0 hn
  · exact signed_any_neg n w hn0 hn
theorem refsigned_any (n : Int) (g : Bool) (w : World) (hn0 : 0 ≤ n) (hn : n < 18446744073709551616) :
    Calls Try.prog 26 #[.int .u64 n, .bool g] w fun e w' => e = .returned (.tuple #[.int .i64 (hv (sg n g)), .int .i64 (he (sg n g))]) ∧ w' = w := by
  cases g
  · exact refsigned_any_pos n w hn0 hn
  · exact refsigned_any_neg n w hn0 hn

theorem sg_mul (a b : Int) : sg ((a.natAbs * b.natAbs : Nat) : Int) (!(decide (a < 0) == decide (b < 0))) = a * b := by
  by_cases h1 : a < 0 <;> by_cases h2 : b < 0
  · rw [sizes_same (.inl ⟨h1, h2⟩)]; simp [h1, h2, sg]
  · rw [sizes_other (.inl ⟨h1, by omega⟩)]; simp [h1, h2, sg]
  · rw [sizes_other (.inr ⟨by omega, h2⟩)]; simp [h1, h2, sg]
  · rw [sizes_same (.inr ⟨by omega, by omega⟩)]; simp [h1, h2, sg]
theorem tdiv_nat (m n : Nat) : ((m : Int).tdiv (n : Int)) = ((m / n : Nat) : Int) := Int.ofNat_tdiv m n
theorem sg_tdiv (a b : Int) : sg ((a.natAbs / b.natAbs : Nat) : Int) (!(decide (a < 0) == decide (b < 0))) = a.tdiv b := by
  rw [← tdiv_nat]
  by_cases h1 : a < 0 <;> by_cases h2 : b < 0
  · rw [show (a.natAbs : Int) = -a by omega, show (b.natAbs : Int) = -b by omega, Int.neg_tdiv, Int.tdiv_neg]; simp [h1, h2, sg]
  · rw [show (a.natAbs : Int) = -a by omega, show (b.natAbs : Int) = b by omega, Int.neg_tdiv]; simp [h1, h2, sg]
  · rw [show (a.natAbs : Int) = a by omega, show (b.natAbs : Int) = -b by omega, Int.tdiv_neg]; simp [h1, h2, sg]
  · rw [show (a.natAbs : Int) = a by omega, show (b.natAbs : Int) = b by omega]; simp [h1, h2, sg]
theorem sg_zero (g : Bool) : sg 0 g = 0 := by cases g <;> rfl
theorem mul_sign {a b : Int} (h : a * b ≠ 0) : decide (a * b < 0) = !(decide (a < 0) == decide (b < 0)) := by
  have ha : a ≠ 0 := by rintro rfl; simp at h
  have hb : b ≠ 0 := by rintro rfl; simp at h
  by_cases h1 : a < 0 <;> by_cases h2 : b < 0
  · have := Int.mul_pos_of_neg_of_neg h1 h2
    simp [h1, h2]; omega
  · have := Int.mul_neg_of_neg_of_pos h1 (show 0 < b by omega)
    simp [h1, h2]; omega
  · have := Int.mul_neg_of_pos_of_neg (show 0 < a by omega) h2
    simp [h1, h2]; omega
  · have := Int.mul_pos (show 0 < a by omega) (show 0 < b by omega)
    simp [h1, h2]; omega
theorem sg_ratio (a b c : Int) : sg ((a.natAbs * b.natAbs / c.natAbs : Nat) : Int) (!(!(decide (a < 0) == decide (b < 0))) == decide (c < 0)) = (a * b).tdiv c := by
  by_cases h : a * b = 0
  · rw [sizes_abs, h]; simp [sg_zero]
  · rw [← mul_sign h, sizes_abs]
    exact sg_tdiv _ _
/-- A size that 64 bits without sign don't hold: no sign makes room. -/
theorem sg_out {n : Int} {g : Bool} (h : 18446744073709551616 ≤ n) : ¬ (-9223372036854775808 ≤ sg n g ∧ sg n g ≤ 9223372036854775807) := by
  cases g <;> simp [sg] <;> omega

theorem mul_any (a b : Int) (w : World) (ha : -9223372036854775808 ≤ a) (ha' : a ≤ 9223372036854775807) (hb : -9223372036854775808 ≤ b) (hb' : b ≤ 9223372036854775807) :
    Calls Try.prog 10 #[.int .i64 a, .int .i64 b] w fun e w' => e = ans (a * b) ∧ w' = w := by
  have HA : Hid (-9223372036854775808 ≤ a ∧ a ≤ 9223372036854775807) := ⟨ha, ha'⟩
  have HB : Hid (-9223372036854775808 ≤ b ∧ b ≤ 9223372036854775807) := ⟨hb, hb'⟩
  have HX : Hid (a.natAbs < 18446744073709551616 ∧ b.natAbs < 18446744073709551616) := ⟨by omega, by omega⟩
  obtain ⟨h, hh⟩ : ∃ h : Int, ((a.natAbs * b.natAbs / 18446744073709551616 : Nat) : Int) = h := ⟨_, rfl⟩
  obtain ⟨l, hl⟩ : ∃ l : Int, ((a.natAbs * b.natAbs % 18446744073709551616 : Nat) : Int) = l := ⟨_, rfl⟩
  by_cases h0 : h = 0
  · have hl0 : 0 ≤ l ∧ l < 18446744073709551616 := by omega
    have HP : Hid (l = ((a.natAbs * b.natAbs : Nat) : Int)) := by
      have : a.natAbs * b.natAbs / 18446744073709551616 = 0 := by omega
      show l = _
      omega
    go_enter Try.func10, Try.ntmps10
    go_wp2_with (first
      | (go_at_call 22; refine (size_any _ _ (by first | exact HA.out.1 | exact HB.out.1) (by first | exact HA.out.2 | exact HB.out.2)).mono ?_; rintro e w1 ⟨rfl, rfl⟩)
      | (go_at_call 21; refine (mul64_any _ _ _ HX.out.1 HX.out.2).mono ?_; rintro e w1 ⟨rfl, rfl⟩; rw [hh, hl])
      | (go_at_call 23; refine (signed_any _ _ _ hl0.1 hl0.2).mono ?_; rintro e w1 ⟨rfl, rfl⟩))
    go_ret2
    exact ⟨by rw [ans_def, ← sg_mul a b, ← HP.out]; rfl, rfl⟩
  · have HO : Hid (¬ (-9223372036854775808 ≤ a * b ∧ a * b ≤ 9223372036854775807)) := by
      show ¬ _
      rw [← sg_mul a b]
      exact sg_out (by omega)
    go_enter Try.func10, Try.ntmps10
    go_wp2_with (first
      | (go_at_call 22; refine (size_any _ _ (by first | exact HA.out.1 | exact HB.out.1) (by first | exact HA.out.2 | exact HB.out.2)).mono ?_; rintro e w1 ⟨rfl, rfl⟩)
      | (go_at_call 21; refine (mul64_any _ _ _ HX.out.1 HX.out.2).mono ?_; rintro e w1 ⟨rfl, rfl⟩; rw [hh, hl]))
    go_ret2
    exact ⟨ans_out HO.out, rfl⟩

theorem div_any (a b : Int) (w : World) (ha : -9223372036854775808 ≤ a) (ha' : a ≤ 9223372036854775807) (hb : -9223372036854775808 ≤ b) (hb' : b ≤ 9223372036854775807) :
    Calls Try.prog 11 #[.int .i64 a, .int .i64 b] w fun e w' => e = ansz b (a.tdiv b) ∧ w' = w := by
  by_cases h0 : b = 0
  · subst h0
    go_enter Try.func11, Try.ntmps11
    go_wp2
    go_ret2
    exact ⟨ansz_zero _, rfl⟩
  · rw [ansz_ne h0]
    by_cases h1 : a = -9223372036854775808 ∧ b = -1
    · obtain ⟨rfl, rfl⟩ := h1
      go_enter Try.func11, Try.ntmps11
      go_wp2
      go_ret2
      exact ⟨ans_out (by decide), rfl⟩
    · have hin : -9223372036854775808 ≤ a.tdiv b ∧ a.tdiv b ≤ 9223372036854775807 := by
        have := sg_tdiv a b
        rw [← this]
        have h2 : a.natAbs / b.natAbs ≤ a.natAbs := Nat.div_le_self _ _
        have h3 : 9223372036854775808 ≤ a.natAbs / b.natAbs → a.natAbs = 9223372036854775808 ∧ b.natAbs = 1 := by
          intro h
          refine ⟨by omega, ?_⟩
          rw [Nat.le_div_iff_mul_le (by omega)] at h
          have : b.natAbs < 2 := by
            apply Nat.lt_of_mul_lt_mul_left (a := 9223372036854775808)
            omega
          omega
        generalize a.natAbs / b.natAbs = q at *
        by_cases h4 : q < 9223372036854775808
        · cases (!(decide (a < 0) == decide (b < 0))) <;> simp [sg] <;> omega
        · obtain ⟨h5, h6⟩ := h3 (by omega)
          have h7 : a < 0 := by omega
          have h8 : ¬ b < 0 := by omega
          simp [sg, h7, h8]; omega
      have hA := ans_in hin
      obtain ⟨q, hq⟩ : ∃ q, a.tdiv b = q := ⟨_, rfl⟩
      rw [hq] at hin hA ⊢
      go_enter Try.func11, Try.ntmps11
      go_wp2
      · go_ret2
        rename_i e1 _
        refine ⟨(ret2 ?_ rfl).trans hA, rfl⟩
        rw [e1, Int.neg_tdiv] at hq
        rw [hq]
        unfold wrap64; omega
      · go_ret2
        exact ⟨hA, rfl⟩

theorem refdiv_any (a b : Int) (w : World) (ha : -9223372036854775808 ≤ a) (ha' : a ≤ 9223372036854775807) (hb : -9223372036854775808 ≤ b) (hb' : b ≤ 9223372036854775807) :
    Calls Try.prog 15 #[.int .i64 a, .int .i64 b] w fun e w' => e = ansz b (a.tdiv b) ∧ w' = w := by
  by_cases h0 : b = 0
  · subst h0
    go_enter Try.func15, Try.ntmps15
    go_wp2
    go_ret2
    exact ⟨ansz_zero _, rfl⟩
  · rw [ansz_ne h0]
    have HA : Hid (-9223372036854775808 ≤ a ∧ a ≤ 9223372036854775807) := ⟨ha, ha'⟩
    have HB : Hid (-9223372036854775808 ≤ b ∧ b ≤ 9223372036854775807) := ⟨hb, hb'⟩
    obtain ⟨x, hx⟩ : ∃ x : Int, (a.natAbs : Int) = x := ⟨_, rfl⟩
    obtain ⟨y, hy⟩ : ∃ y : Int, (b.natAbs : Int) = y := ⟨_, rfl⟩
    have hx0 : 0 ≤ x ∧ x < 18446744073709551616 := by omega
    have hy0 : 0 < y ∧ y < 18446744073709551616 := by omega
    have hq0 : 0 ≤ x / y ∧ x / y ≤ x := ⟨Int.ediv_nonneg hx0.1 (by omega), Int.ediv_le_self _ hx0.1⟩
    have HQ : Hid (x / y = ((a.natAbs / b.natAbs : Nat) : Int)) := by rw [← hx, ← hy]; rfl
    have HR : Hid (0 ≤ x / y ∧ x / y < 18446744073709551616) := by show _ ∧ _; omega
    have HE : Hid (sg (x / y) (!(decide (a < 0) == decide (b < 0))) = a.tdiv b) := by show _ = _; rw [HQ.out]; exact sg_tdiv a b
    clear hq0
    go_enter Try.func15, Try.ntmps15
    go_wp2_with (first
      | (go_at_call 25; refine (refsize_any _ _ (by first | exact HA.out.1 | exact HB.out.1) (by first | exact HA.out.2 | exact HB.out.2)).mono ?_; rintro e w1 ⟨rfl, rfl⟩; first | rw [hx] | rw [hy])
      | (go_at_call 26; refine (refsigned_any _ _ _ HR.out.1 HR.out.2).mono ?_; rintro e w1 ⟨rfl, rfl⟩))
    go_ret2
    exact ⟨by rw [ans_def, ← HE.out]; rfl, rfl⟩

theorem ratio_any (a b c : Int) (w : World) (ha : -9223372036854775808 ≤ a) (ha' : a ≤ 9223372036854775807) (hb : -9223372036854775808 ≤ b) (hb' : b ≤ 9223372036854775807) (hc : -9223372036854775808 ≤ c) (hc' : c ≤ 9223372036854775807) :
    Calls Try.prog 17 #[.int .i64 a, .int .i64 b, .int .i64 c] w fun e w' => e = ansz c ((a * b).tdiv c) ∧ Below w.heap.size w w' := by
  by_cases h0 : c = 0
  · subst h0
    go_enter Try.func17, Try.ntmps17
    go_wp2
    go_ret2
    exact ⟨ansz_zero _, Below.refl _ _⟩
  · rw [ansz_ne h0]
    have HA : Hid (-9223372036854775808 ≤ a ∧ a ≤ 9223372036854775807) := ⟨ha, ha'⟩
    have HB : Hid (-9223372036854775808 ≤ b ∧ b ≤ 9223372036854775807) := ⟨hb, hb'⟩
    have HC : Hid (-9223372036854775808 ≤ c ∧ c ≤ 9223372036854775807) := ⟨hc, hc'⟩
    have HX : Hid (a.natAbs < 18446744073709551616 ∧ b.natAbs < 18446744073709551616) := ⟨by omega, by omega⟩
    have hS := sg_ratio a b c
    obtain ⟨h, hh⟩ : ∃ h : Int, ((a.natAbs * b.natAbs / 18446744073709551616 : Nat) : Int) = h := ⟨_, rfl⟩
    obtain ⟨l, hl⟩ : ∃ l : Int, ((a.natAbs * b.natAbs % 18446744073709551616 : Nat) : Int) = l := ⟨_, rfl⟩
    obtain ⟨z, hz⟩ : ∃ z : Int, (c.natAbs : Int) = z := ⟨_, rfl⟩
    obtain ⟨q, hq⟩ : ∃ q : Int, ((a.natAbs * b.natAbs / c.natAbs : Nat) : Int) = q := ⟨_, rfl⟩
    rw [hq] at hS
    by_cases h1 : z ≤ h
    · have HO : Hid (¬ (-9223372036854775808 ≤ (a * b).tdiv c ∧ (a * b).tdiv c ≤ 9223372036854775807)) := by
        show ¬ _
        rw [← hS]
        apply sg_out
        rw [← hq]
        have : 18446744073709551616 ≤ a.natAbs * b.natAbs / c.natAbs := by
          rw [Nat.le_div_iff_mul_le (by omega)]
          have : c.natAbs ≤ a.natAbs * b.natAbs / 18446744073709551616 := by omega
          rw [Nat.le_div_iff_mul_le (by omega)] at this
          rw [Nat.mul_comm]; exact this
        omega
      go_enter Try.func17, Try.ntmps17
      go_wp2_with (first
        | (go_at_call 22; refine (size_any _ _ (by first | exact HA.out.1 | exact HB.out.1 | exact HC.out.1) (by first | exact HA.out.2 | exact HB.out.2 | exact HC.out.2)).mono ?_; rintro e w1 ⟨rfl, rfl⟩; try rw [hz])
        | (go_at_call 21; refine (mul64_any _ _ _ HX.out.1 HX.out.2).mono ?_; rintro e w1 ⟨rfl, rfl⟩; rw [hh, hl]))
      go_ret2
      exact ⟨ans_out HO.out, Below.refl _ _⟩
    · have HQ : Hid (0 ≤ q ∧ q < 18446744073709551616) := by
        have : a.natAbs * b.natAbs / c.natAbs < 18446744073709551616 := by
          rw [Nat.div_lt_iff_lt_mul (by omega)]
          have : a.natAbs * b.natAbs / 18446744073709551616 < c.natAbs := by omega
          rw [Nat.div_lt_iff_lt_mul (by omega)] at this
          rw [Nat.mul_comm 18446744073709551616]; exact this
        show 0 ≤ q ∧ q < 18446744073709551616
        generalize a.natAbs * b.natAbs / c.natAbs = n at *
        omega
      have HD : Hid (∀ w, Calls Try.prog 27 #[.int .u64 h, .int .u64 l, .int .u64 z] w fun e w' => (∃ r : Int, e = .returned (.tuple #[.int .u64 q, .int .u64 r])) ∧ Below w.heap.size w w') := by
        intro w
        have := div64_any (a.natAbs * b.natAbs / 18446744073709551616) (a.natAbs * b.natAbs % 18446744073709551616) c.natAbs w (by omega) (Nat.mod_lt _ (by omega)) (by omega)
        rw [Nat.div_add_mod', hh, hl, hz, hq] at this
        exact this
      have HS : Hid (sg q (!(!(decide (a < 0) == decide (b < 0))) == decide (c < 0)) = (a * b).tdiv c) := hS
      have hz0 : 0 < z ∧ z < 18446744073709551616 := by omega
      have hh0 : 0 ≤ h := by omega
      clear hS hq
      go_enter Try.func17, Try.ntmps17
      go_wp2_with (first
        | (go_at_call 22; refine (size_any _ _ (by first | exact HA.out.1 | exact HB.out.1 | exact HC.out.1) (by first | exact HA.out.2 | exact HB.out.2 | exact HC.out.2)).mono ?_; rintro e w1 ⟨rfl, rfl⟩; try rw [hz])
        | (go_at_call 21; refine (mul64_any _ _ _ HX.out.1 HX.out.2).mono ?_; rintro e w1 ⟨rfl, rfl⟩; rw [hh, hl])
        | (go_at_call 27; refine (HD.out _).mono ?_; rintro e w2 ⟨⟨r, rfl⟩, hb2⟩)
        | (go_at_call 23; refine (signed_any _ _ _ HQ.out.1 HQ.out.2).mono ?_; rintro e w3 ⟨rfl, rfl⟩))
      go_ret2
      exact ⟨by rw [ans_def, ← HS.out]; rfl, hb2⟩
end Go.Proofs.Ytpehbpehlkjdiaa
